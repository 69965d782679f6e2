/-
  The walk of laws.FnRoots.
-/
import Derived.Test.YtnflilaldamddaaRtDraw
import Derived.Deep.DeepCutAuto
import Derived.BigQuiet
namespace Go.Proofs.Ytnflilaldamddaa
namespace Rt
open Go.RowKit

theorem tooBig_any (a : Option Addr) (len cap : Nat) (w : World) :
    Calls Try.prog 7 #[.slice a len cap] w fun e w' => e = .returned (.bool (decide ((1048576 : Int) < (len : Int)))) ∧ w' = w := by
  go_enter Try.func7, Try.ntmps7
  go_wp2
  go_ret
  exact ⟨rfl, rfl⟩

theorem roots_big (a : Option Addr) (len cap : Nat) (hl : ¬ len ≤ 1048576) (w : World) :
    Calls Try.prog 3 #[.slice a len cap] w fun e w' => e = .returned (.bool true) ∧ Below w.heap.size w w' := by
  have H := hide (tooBig_any a len cap w)
  have e : decide ((1048576 : Int) < (len : Int)) = true := by simp; omega
  rw [e] at H
  clear e
  go_enter Try.func3, Try.ntmps3
  go_wp2_with fail
  refine (unhide H).mono ?_
  rintro e w1 ⟨rfl, rfl⟩
  go_wp2
  go_ret
  exact ⟨rfl, Below.refl _ _⟩

/-- What comes back of a root's text. -/
theorem root_back (s t : Int) : ∃ (z : ByteArray) (b : Bool) (s' t' : Int) (f : Bool), rootT s t = .tuple #[.string z, .bool b] ∧ z.size ≤ 11 ∧ rootV z = .tuple #[.agg #[.int .i64 s', .int .i64 t'], .bool f] ∧ (b = true → f = true ∧ s' = s ∧ t' = t) := by
  cases h : okR s t with
  | false =>
    refine ⟨⟨#[]⟩, false, _, _, _, by unfold rootT; rw [h]; rfl, Nat.zero_le _, rootV_eq _, fun e => by cases e⟩
  | true =>
    have hs : (sealB (rootB s t)).size = 11 := by rw [sealB_size, rootB_size]
    exact ⟨sealB (rootB s t), true, s, t, true, by unfold rootT; rw [h]; rfl, by omega, rootV_some (rootA_back s t h), fun _ => ⟨rfl, rfl, rfl⟩⟩

theorem last_two (p q : Int) (hp : 0 ≤ p ∧ p < 10000) (hq : 0 ≤ q ∧ q < 10000) : lastV (readA [sealB (rootB p (-1)), sealB (rootB q 3)] [] 0).1 (readA [sealB (rootB p (-1)), sealB (rootB q 3)] [] 1).1 =
    if p < q then .tuple #[.agg #[.int .i64 q, .int .i64 3], .int .i64 1, .bool true] else .tuple #[.agg #[.int .i64 p, .int .i64 (-1)], .int .i64 0, .bool true] := by
  have h1 : okR p (-1) = true := by unfold okR; simp; omega
  have h2 : okR q 3 = true := by unfold okR; simp; omega
  have z1 : (sealB (rootB p (-1))).size = 11 := by rw [sealB_size, rootB_size]
  have z2 : (sealB (rootB q 3)).size = 11 := by rw [sealB_size, rootB_size]
  have b1 := rootA_back p (-1) h1
  have b2 := rootA_back q 3 h2
  generalize sealB (rootB p (-1)) = X at z1 b1
  generalize sealB (rootB q 3) = Y at z2 b2
  have hd : devOk [X, Y] [] = true := by simp [devOk, secOk, z1, z2]
  have e0 : (readA [X, Y] [] 0).1 = X := by unfold readA; rw [if_pos ⟨hd, by omega, by simp⟩]; rfl
  have e1 : (readA [X, Y] [] 1).1 = Y := by unfold readA; rw [if_pos ⟨hd, by omega, by simp⟩]; rfl
  rw [e0, e1]
  have f1 : rootF X = true := by unfold rootF; rw [b1]; rfl
  have f2 : rootF Y = true := by unfold rootF; rw [b2]; rfl
  have s1 : rootS X = p := by unfold rootS; rw [b1]; rfl
  have s2 : rootS Y = q := by unfold rootS; rw [b2]; rfl
  have r1 : rootR X = -1 := by unfold rootR; rw [b1]; rfl
  have r2 : rootR Y = 3 := by unfold rootR; rw [b2]; rfl
  unfold lastV
  rw [f1, f2, s1, s2, r1, r2, if_neg (by simp)]
  by_cases hlt : p < q
  · rw [if_pos (.inr ⟨rfl, hlt⟩), if_pos hlt]
  · rw [if_neg (by simp [hlt]), if_neg hlt]

set_option maxRecDepth 100000 in
set_option maxHeartbeats 2000000 in
theorem roots_walk (a : Option Addr) (len cap : Nat) (hl : len ≤ 1048576) (w : World) (hd : Code a len w.heap.size w) :
    Calls Try.prog 3 #[.slice a len cap] w fun e w' => e = .returned (.bool true) ∧ Below w.heap.size w w' := by
  have H := hide (tooBig_any a len cap w)
  have e : decide ((1048576 : Int) < (len : Int)) = false := by simp; omega
  rw [e] at H
  have HD := hide hd
  have DR := hide (drawRoot_any a len cap hl w hd)
  clear e hd
  go_enter Try.func3, Try.ntmps3
  go_wp2_with fail
  refine (unhide H).mono ?_
  rintro e w1 ⟨rfl, hw1⟩
  cases hw1
  go_wp2_with fail
  refine (unhide DR).mono ?_
  rintro e w2 ⟨⟨s, t, rfl⟩, hb2⟩
  obtain ⟨z, b, s', t', f, hz1, hz2, hz3, hz4⟩ := root_back s t
  have HI := hide (fun w => implRoot_any s t w)
  have HS := hide (fun w => specRoot_any s t w)
  have HR := hide (fun w => implReadRoot_any z (by omega) w)
  rw [hz1] at HI HS
  rw [hz3] at HR
  have HZ := hide hz4
  clear hz1 hz2 hz3 hz4 H DR
  go_wp2_with fail
  obtain ⟨W2, hW2⟩ : ∃ W, W = w2.alloc (Obj.cells #[Value.int .i64 s, Value.int .i64 t] 25) := ⟨_, rfl⟩
  rw [← hW2]
  have HA2 : Hid (RBox W2 w2.heap.size s t) := by show RBox _ _ _ _; rw [hW2]; exact RBox.new _ _ _
  have hc2 : Below w.heap.size w W2 := by rw [hW2]; exact hb2.alloc hb2.size _
  clear hW2 hb2
  refine (unhide HI W2).mono ?_
  rintro e w3 ⟨rfl, hb3⟩
  have ha3 := (unhide HA2).below hb3
  have HA3 := hide ha3
  have hc3 := hc2.trans (hb3.mono hc2.size)
  obtain ⟨p0, p1, _⟩ := cells_of_two ha3
  clear hb3 hc2 HA2 ha3
  go_wp2_with fail
  refine (unhide HS w3).mono ?_
  rintro e w4 ⟨rfl, hb4⟩
  have HA4 := hide ((unhide HA3).below hb4)
  have hc4 := hc3.trans (hb4.mono hc3.size)
  clear hb4 hc3 HA3 p0 p1
  go_wp2_with fail
  refine (unhide HR w4).mono ?_
  rintro e w5 ⟨rfl, hb5⟩
  have ha5 := (unhide HA4).below hb5
  have hc5 := hc4.trans (hb5.mono hc4.size)
  obtain ⟨W5, hW5⟩ : ∃ W, W = w5.alloc (Obj.cells #[Value.int .i64 s', Value.int .i64 t'] 25) := ⟨_, rfl⟩
  have hx5 : RBox W5 w5.heap.size s' t' := by rw [hW5]; exact RBox.new _ _ _
  have ha6 : RBox W5 w2.heap.size s t := by rw [hW5]; exact ha5.alloc _
  have hc6 : Below w.heap.size w W5 := by rw [hW5]; exact hc5.alloc hc5.size _
  clear hb5 hc4 HA4 ha5 hc5 HI HS HR
  go_upto_region 7 with fail
  rw [← hW5]
  clear hW5
  obtain ⟨p0, p1, _⟩ := cells_of_two ha6
  obtain ⟨q0, q1, _⟩ := cells_of_two hx5
  clear ha6 hx5
  have HPL := hide (places_any a len cap hl W5 (code_mono ((unhide HD).below hc6 (Nat.le_refl _)) hc6.size))
  clear HD
  cases b
  · go_wp2_with fail
    refine (unhide HPL).mono ?_
    rintro e w6 ⟨⟨v, K, rfl, hK, hKs⟩, hb6⟩
    have hc7 : Below w.heap.size w w6 := hc6.trans (hb6.mono hc6.size)
    obtain ⟨gk, ck, rfl, hgk1, hgk2⟩ := hK.form (by omega)
    have hKl : K.length = 12 := by have := hK.1; simp [intsV] at this; omega
    have h0K : 0 < K.length := by omega
    have h1K : 1 < K.length := by omega
    have k0 := hK.cellAt 0 (by omega)
    have k1 := hK.cellAt 1 (by omega)
    have k02 : (intsV K)[0]? = some (.int .i64 K[0]) := by simp [intsV, h0K]
    have k12 : (intsV K)[1]? = some (.int .i64 K[1]) := by simp [intsV, h1K]
    rw [k02] at k0
    rw [k12] at k1
    have hp := hKs K[0] (List.getElem_mem h0K)
    have hq := hKs K[1] (List.getElem_mem h1K)
    generalize K[0] = p at k0 hp
    generalize K[1] = q at k1 hq
    have HLT := hide (last_two p q hp hq)
    have HIA := hide (fun w => implRoot_any p (-1) w)
    have HIB := hide (fun w => implRoot_any q 3 w)
    rw [rootT_yes (by omega)] at HIA
    rw [rootT_yes (by omega)] at HIB
    have z1 : (sealB (rootB p (-1))).size = 11 := by rw [sealB_size, rootB_size]
    have z2 : (sealB (rootB q 3)).size = 11 := by rw [sealB_size, rootB_size]
    have hgs : gk < w6.heap.size := by simpa using World.block_lt_of_cell? w6 _ k0
    generalize sealB (rootB p (-1)) = X at HLT HIA z1
    generalize sealB (rootB q 3) = Y at HLT HIB z2
    clear hK hKs hKl h0K h1K k02 k12 hb6 hp hq HPL hc6 p0 p1 q0 q1 hgk1 hgk2
    go_upto_region 12 with fail
    obtain ⟨W6, hW6⟩ : ∃ W, W = (w6.alloc (Obj.cells #[Value.int .i64 p, Value.int .i64 (-1)] 25)).alloc (Obj.cells #[Value.int .i64 q, Value.int .i64 3] 25) := ⟨_, rfl⟩
    have hbW6 : Below w6.heap.size w6 W6 := by rw [hW6]; exact (below_new1 _ _).alloc (by simp) _
    have ha6 : RBox W6 w6.heap.size p (-1) := by rw [hW6]; exact (RBox.new w6 p (-1)).alloc _
    have hx6 : RBox W6 (w6.heap.size + 1) q 3 := by
      rw [hW6]
      have h := RBox.new (w6.alloc (Obj.cells #[Value.int .i64 p, Value.int .i64 (-1)] 25)) q 3
      rw [World.size_alloc] at h
      exact h
    have hc8 := hc7.trans (hbW6.mono hc7.size)
    have k0 := (hbW6.cell (p := ⟨gk, 0, none⟩) hgs).trans k0
    have k1 := (hbW6.cell (p := ⟨gk, 1, none⟩) hgs).trans k1
    have hgs := Nat.lt_of_lt_of_le hgs hbW6.size
    rw [← hW6]
    obtain ⟨m, hm⟩ : ∃ m, m = w6.heap.size := ⟨_, rfl⟩
    rw [← hm] at ha6 hx6 ⊢
    obtain ⟨p0, p1, _⟩ := cells_of_two ha6
    have HA6 := hide ha6
    have HX6 := hide hx6
    clear hW6 hm hbW6 hc7 ha6 hx6
    go_wp2_with fail
    refine (unhide HIA W6).mono ?_
    rintro e w7 ⟨rfl, hb7⟩
    have hx7 := (unhide HX6).below hb7
    have HA7 := hide ((unhide HA6).below hb7)
    have hc9 := hc8.trans (hb7.mono hc8.size)
    have k0 := (hb7.cell (p := ⟨gk, 0, none⟩) hgs).trans k0
    have k1 := (hb7.cell (p := ⟨gk, 1, none⟩) hgs).trans k1
    have hgs := Nat.lt_of_lt_of_le hgs hb7.size
    obtain ⟨p0, p1, _⟩ := cells_of_two hx7
    have HX7 := hide hx7
    clear hb7 hc8 hx7 HX6 HA6 HIA
    go_wp2_with fail
    refine (unhide HIB w7).mono ?_
    rintro e w8 ⟨rfl, hb8⟩
    have HX8 := hide ((unhide HX7).below hb8)
    have HA8 := hide ((unhide HA7).below hb8)
    have hc10 := hc9.trans (hb8.mono hc9.size)
    have k0 := (hb8.cell (p := ⟨gk, 0, none⟩) hgs).trans k0
    have k1 := (hb8.cell (p := ⟨gk, 1, none⟩) hgs).trans k1
    have hgs := Nat.lt_of_lt_of_le hgs hb8.size
    clear hb8 hc9 HX7 HA7 HIB p0 p1
    go_upto_region 15 with fail
    obtain ⟨W8, hW8⟩ : ∃ W, W = (w8.alloc (Obj.cells #[Value.string X, Value.string Y] 9)).alloc (Obj.cells #[Value.slice (some ⟨w8.heap.size, 0, none⟩) 2 2, Value.slice none 0 0] 36) := ⟨_, rfl⟩
    have hbW8 : Below w8.heap.size w8 W8 := by rw [hW8]; exact (below_new1 _ _).alloc (by simp) _
    have ht8 : W8.heap[w8.heap.size]? = some (.cells #[Value.string X, Value.string Y] 9 (0, 0)) := by rw [hW8]; exact ((below_new1 _ _).block _ (by simp)).trans (heap_alloc_new w8 _)
    have hd8 : W8.heap[w8.heap.size + 1]? = some (.cells #[Value.slice (some ⟨w8.heap.size, 0, none⟩) 2 2, Value.slice none 0 0] 36 (0, 0)) := by
      rw [hW8]
      have h := heap_alloc_new (w8.alloc (Obj.cells #[Value.string X, Value.string Y] 9)) (Obj.cells #[Value.slice (some ⟨w8.heap.size, 0, none⟩) 2 2, Value.slice none 0 0] 36)
      rw [World.size_alloc] at h
      exact h
    have hz8 : w8.heap.size < W8.heap.size := by rw [hW8]; simp; omega
    rw [← hW8]
    clear hW8
    have HX9 := hide ((unhide HX8).below hbW8)
    have HA9 := hide ((unhide HA8).below hbW8)
    have hc11 := hc10.trans (hbW8.mono hc10.size)
    have k0 := (hbW8.cell (p := ⟨gk, 0, none⟩) hgs).trans k0
    have k1 := (hbW8.cell (p := ⟨gk, 1, none⟩) hgs).trans k1
    have hgs := Nat.lt_of_lt_of_le hgs hbW8.size
    obtain ⟨t0, t1, _⟩ := cells_of_two ht8
    obtain ⟨d0, d1, _⟩ := cells_of_two hd8
    have hda : DevAt W8 (.agg #[.slice (some ⟨w8.heap.size, 0, none⟩) 2 2, .slice none 0 0]) W8.heap.size [X, Y] [] := by
      refine ⟨_, _, _, _, _, _, rfl, ⟨rfl, fun j hj => ⟨w8.heap.size, 0, rfl, hz8, ?_⟩⟩, ⟨rfl, fun j hj => absurd hj (by simp)⟩⟩
      have hj2 : j = 0 ∨ j = 1 := by simp at hj; omega
      rcases hj2 with rfl | rfl
      · exact t0
      · exact t1
    have HLR := hide (implLast_any _ W8.heap.size [X, Y] [] (by simp) (by simp) (by intro u hu; simp at hu; rcases hu with rfl | rfl <;> omega) W8 (Nat.le_refl _) hda)
    rw [unhide HLT] at HLR
    clear hda t0 t1 ht8 hd8 hbW8 hc10 HX8 HA8 HLT z1 z2
    by_cases hpq : p < q
    · rw [if_pos hpq] at HLR
      go_wp2_with fail
      refine (unhide HLR).mono ?_
      rintro e w9 ⟨rfl, hb9⟩
      have hc12 := hc11.trans (hb9.mono hc11.size)
      have k0 := (hb9.cell (p := ⟨gk, 0, none⟩) hgs).trans k0
      have k1 := (hb9.cell (p := ⟨gk, 1, none⟩) hgs).trans k1
      have hgs := Nat.lt_of_lt_of_le hgs hb9.size
      have ha9 := (unhide HX9).below hb9
      clear hb9 HLR hc11 d0 d1 HX9 HA9
      obtain ⟨W9, hW9⟩ : ∃ W, W = w9.alloc (Obj.cells #[Value.int .i64 q, Value.int .i64 3] 25) := ⟨_, rfl⟩
      have hbW9 : Below w9.heap.size w9 W9 := by rw [hW9]; exact below_new1 _ _
      have hl9 : RBox W9 w9.heap.size q 3 := by rw [hW9]; exact RBox.new _ _ _
      have ha10 := ha9.below hbW9
      have hc13 := hc12.trans (hbW9.mono hc12.size)
      have k0 := (hbW9.cell (p := ⟨gk, 0, none⟩) hgs).trans k0
      have k1 := (hbW9.cell (p := ⟨gk, 1, none⟩) hgs).trans k1
      go_upto_region 16 with fail
      rw [← hW9]
      clear hW9 ha9 hc12 hbW9
      obtain ⟨l0, l1, _⟩ := cells_of_two hl9
      obtain ⟨m0, m1, _⟩ := cells_of_two ha10
      clear hl9 ha10
      go_quiet (fail)
      have hs3 : (q == q) = true := by simp
      go_wp2
      go_ret
      exact ⟨rfl, below_drewN hc13 _⟩
    · rw [if_neg hpq] at HLR
      go_wp2_with fail
      refine (unhide HLR).mono ?_
      rintro e w9 ⟨rfl, hb9⟩
      have hc12 := hc11.trans (hb9.mono hc11.size)
      have k0 := (hb9.cell (p := ⟨gk, 0, none⟩) hgs).trans k0
      have k1 := (hb9.cell (p := ⟨gk, 1, none⟩) hgs).trans k1
      have hgs := Nat.lt_of_lt_of_le hgs hb9.size
      have ha9 := (unhide HA9).below hb9
      clear hb9 HLR hc11 d0 d1 HX9 HA9
      obtain ⟨W9, hW9⟩ : ∃ W, W = w9.alloc (Obj.cells #[Value.int .i64 p, Value.int .i64 (-1)] 25) := ⟨_, rfl⟩
      have hbW9 : Below w9.heap.size w9 W9 := by rw [hW9]; exact below_new1 _ _
      have hl9 : RBox W9 w9.heap.size p (-1) := by rw [hW9]; exact RBox.new _ _ _
      have ha10 := ha9.below hbW9
      have hc13 := hc12.trans (hbW9.mono hc12.size)
      have k0 := (hbW9.cell (p := ⟨gk, 0, none⟩) hgs).trans k0
      have k1 := (hbW9.cell (p := ⟨gk, 1, none⟩) hgs).trans k1
      go_upto_region 16 with fail
      rw [← hW9]
      clear hW9 ha9 hc12 hbW9
      obtain ⟨l0, l1, _⟩ := cells_of_two hl9
      obtain ⟨m0, m1, _⟩ := cells_of_two ha10
      clear hl9 ha10
      go_quiet (fail)
      have hs3 : (p == p) = true := by simp
      go_wp2
      go_ret
      exact ⟨rfl, below_drewN hc13 _⟩
  · obtain ⟨rfl, rfl, rfl⟩ := unhide HZ rfl
    have hs1 : (s' == s') = true := by simp
    have hs2 : (t' == t') = true := by simp
    go_wp2_with fail
    refine (unhide HPL).mono ?_
    rintro e w6 ⟨⟨v, K, rfl, hK, hKs⟩, hb6⟩
    have hc7 : Below w.heap.size w w6 := hc6.trans (hb6.mono hc6.size)
    obtain ⟨gk, ck, rfl, hgk1, hgk2⟩ := hK.form (by omega)
    have hKl : K.length = 12 := by have := hK.1; simp [intsV] at this; omega
    have h0K : 0 < K.length := by omega
    have h1K : 1 < K.length := by omega
    have k0 := hK.cellAt 0 (by omega)
    have k1 := hK.cellAt 1 (by omega)
    have k02 : (intsV K)[0]? = some (.int .i64 K[0]) := by simp [intsV, h0K]
    have k12 : (intsV K)[1]? = some (.int .i64 K[1]) := by simp [intsV, h1K]
    rw [k02] at k0
    rw [k12] at k1
    have hp := hKs K[0] (List.getElem_mem h0K)
    have hq := hKs K[1] (List.getElem_mem h1K)
    generalize K[0] = p at k0 hp
    generalize K[1] = q at k1 hq
    have HLT := hide (last_two p q hp hq)
    have HIA := hide (fun w => implRoot_any p (-1) w)
    have HIB := hide (fun w => implRoot_any q 3 w)
    rw [rootT_yes (by omega)] at HIA
    rw [rootT_yes (by omega)] at HIB
    have z1 : (sealB (rootB p (-1))).size = 11 := by rw [sealB_size, rootB_size]
    have z2 : (sealB (rootB q 3)).size = 11 := by rw [sealB_size, rootB_size]
    have hgs : gk < w6.heap.size := by simpa using World.block_lt_of_cell? w6 _ k0
    generalize sealB (rootB p (-1)) = X at HLT HIA z1
    generalize sealB (rootB q 3) = Y at HLT HIB z2
    clear hK hKs hKl h0K h1K k02 k12 hb6 hp hq HPL hc6 p0 p1 q0 q1 hgk1 hgk2
    go_upto_region 12 with fail
    obtain ⟨W6, hW6⟩ : ∃ W, W = (w6.alloc (Obj.cells #[Value.int .i64 p, Value.int .i64 (-1)] 25)).alloc (Obj.cells #[Value.int .i64 q, Value.int .i64 3] 25) := ⟨_, rfl⟩
    have hbW6 : Below w6.heap.size w6 W6 := by rw [hW6]; exact (below_new1 _ _).alloc (by simp) _
    have ha6 : RBox W6 w6.heap.size p (-1) := by rw [hW6]; exact (RBox.new w6 p (-1)).alloc _
    have hx6 : RBox W6 (w6.heap.size + 1) q 3 := by
      rw [hW6]
      have h := RBox.new (w6.alloc (Obj.cells #[Value.int .i64 p, Value.int .i64 (-1)] 25)) q 3
      rw [World.size_alloc] at h
      exact h
    have hc8 := hc7.trans (hbW6.mono hc7.size)
    have k0 := (hbW6.cell (p := ⟨gk, 0, none⟩) hgs).trans k0
    have k1 := (hbW6.cell (p := ⟨gk, 1, none⟩) hgs).trans k1
    have hgs := Nat.lt_of_lt_of_le hgs hbW6.size
    rw [← hW6]
    obtain ⟨m, hm⟩ : ∃ m, m = w6.heap.size := ⟨_, rfl⟩
    rw [← hm] at ha6 hx6 ⊢
    obtain ⟨p0, p1, _⟩ := cells_of_two ha6
    have HA6 := hide ha6
    have HX6 := hide hx6
    clear hW6 hm hbW6 hc7 ha6 hx6
    go_wp2_with fail
    refine (unhide HIA W6).mono ?_
    rintro e w7 ⟨rfl, hb7⟩
    have hx7 := (unhide HX6).below hb7
    have HA7 := hide ((unhide HA6).below hb7)
    have hc9 := hc8.trans (hb7.mono hc8.size)
    have k0 := (hb7.cell (p := ⟨gk, 0, none⟩) hgs).trans k0
    have k1 := (hb7.cell (p := ⟨gk, 1, none⟩) hgs).trans k1
    have hgs := Nat.lt_of_lt_of_le hgs hb7.size
    obtain ⟨p0, p1, _⟩ := cells_of_two hx7
    have HX7 := hide hx7
    clear hb7 hc8 hx7 HX6 HA6 HIA
    go_wp2_with fail
    refine (unhide HIB w7).mono ?_
    rintro e w8 ⟨rfl, hb8⟩
    have HX8 := hide ((unhide HX7).below hb8)
    have HA8 := hide ((unhide HA7).below hb8)
    have hc10 := hc9.trans (hb8.mono hc9.size)
    have k0 := (hb8.cell (p := ⟨gk, 0, none⟩) hgs).trans k0
    have k1 := (hb8.cell (p := ⟨gk, 1, none⟩) hgs).trans k1
    have hgs := Nat.lt_of_lt_of_le hgs hb8.size
    clear hb8 hc9 HX7 HA7 HIB p0 p1
    go_upto_region 15 with fail
    obtain ⟨W8, hW8⟩ : ∃ W, W = (w8.alloc (Obj.cells #[Value.string X, Value.string Y] 9)).alloc (Obj.cells #[Value.slice (some ⟨w8.heap.size, 0, none⟩) 2 2, Value.slice none 0 0] 36) := ⟨_, rfl⟩
    have hbW8 : Below w8.heap.size w8 W8 := by rw [hW8]; exact (below_new1 _ _).alloc (by simp) _
    have ht8 : W8.heap[w8.heap.size]? = some (.cells #[Value.string X, Value.string Y] 9 (0, 0)) := by rw [hW8]; exact ((below_new1 _ _).block _ (by simp)).trans (heap_alloc_new w8 _)
    have hd8 : W8.heap[w8.heap.size + 1]? = some (.cells #[Value.slice (some ⟨w8.heap.size, 0, none⟩) 2 2, Value.slice none 0 0] 36 (0, 0)) := by
      rw [hW8]
      have h := heap_alloc_new (w8.alloc (Obj.cells #[Value.string X, Value.string Y] 9)) (Obj.cells #[Value.slice (some ⟨w8.heap.size, 0, none⟩) 2 2, Value.slice none 0 0] 36)
      rw [World.size_alloc] at h
      exact h
    have hz8 : w8.heap.size < W8.heap.size := by rw [hW8]; simp; omega
    rw [← hW8]
    clear hW8
    have HX9 := hide ((unhide HX8).below hbW8)
    have HA9 := hide ((unhide HA8).below hbW8)
    have hc11 := hc10.trans (hbW8.mono hc10.size)
    have k0 := (hbW8.cell (p := ⟨gk, 0, none⟩) hgs).trans k0
    have k1 := (hbW8.cell (p := ⟨gk, 1, none⟩) hgs).trans k1
    have hgs := Nat.lt_of_lt_of_le hgs hbW8.size
    obtain ⟨t0, t1, _⟩ := cells_of_two ht8
    obtain ⟨d0, d1, _⟩ := cells_of_two hd8
    have hda : DevAt W8 (.agg #[.slice (some ⟨w8.heap.size, 0, none⟩) 2 2, .slice none 0 0]) W8.heap.size [X, Y] [] := by
      refine ⟨_, _, _, _, _, _, rfl, ⟨rfl, fun j hj => ⟨w8.heap.size, 0, rfl, hz8, ?_⟩⟩, ⟨rfl, fun j hj => absurd hj (by simp)⟩⟩
      have hj2 : j = 0 ∨ j = 1 := by simp at hj; omega
      rcases hj2 with rfl | rfl
      · exact t0
      · exact t1
    have HLR := hide (implLast_any _ W8.heap.size [X, Y] [] (by simp) (by simp) (by intro u hu; simp at hu; rcases hu with rfl | rfl <;> omega) W8 (Nat.le_refl _) hda)
    rw [unhide HLT] at HLR
    clear hda t0 t1 ht8 hd8 hbW8 hc10 HX8 HA8 HLT z1 z2
    by_cases hpq : p < q
    · rw [if_pos hpq] at HLR
      go_wp2_with fail
      refine (unhide HLR).mono ?_
      rintro e w9 ⟨rfl, hb9⟩
      have hc12 := hc11.trans (hb9.mono hc11.size)
      have k0 := (hb9.cell (p := ⟨gk, 0, none⟩) hgs).trans k0
      have k1 := (hb9.cell (p := ⟨gk, 1, none⟩) hgs).trans k1
      have hgs := Nat.lt_of_lt_of_le hgs hb9.size
      have ha9 := (unhide HX9).below hb9
      clear hb9 HLR hc11 d0 d1 HX9 HA9
      obtain ⟨W9, hW9⟩ : ∃ W, W = w9.alloc (Obj.cells #[Value.int .i64 q, Value.int .i64 3] 25) := ⟨_, rfl⟩
      have hbW9 : Below w9.heap.size w9 W9 := by rw [hW9]; exact below_new1 _ _
      have hl9 : RBox W9 w9.heap.size q 3 := by rw [hW9]; exact RBox.new _ _ _
      have ha10 := ha9.below hbW9
      have hc13 := hc12.trans (hbW9.mono hc12.size)
      have k0 := (hbW9.cell (p := ⟨gk, 0, none⟩) hgs).trans k0
      have k1 := (hbW9.cell (p := ⟨gk, 1, none⟩) hgs).trans k1
      go_upto_region 16 with fail
      rw [← hW9]
      clear hW9 ha9 hc12 hbW9
      obtain ⟨l0, l1, _⟩ := cells_of_two hl9
      obtain ⟨m0, m1, _⟩ := cells_of_two ha10
      clear hl9 ha10
      go_quiet (fail)
      have hs3 : (q == q) = true := by simp
      go_wp2
      go_ret
      exact ⟨rfl, below_drewN hc13 _⟩
    · rw [if_neg hpq] at HLR
      go_wp2_with fail
      refine (unhide HLR).mono ?_
      rintro e w9 ⟨rfl, hb9⟩
      have hc12 := hc11.trans (hb9.mono hc11.size)
      have k0 := (hb9.cell (p := ⟨gk, 0, none⟩) hgs).trans k0
      have k1 := (hb9.cell (p := ⟨gk, 1, none⟩) hgs).trans k1
      have hgs := Nat.lt_of_lt_of_le hgs hb9.size
      have ha9 := (unhide HA9).below hb9
      clear hb9 HLR hc11 d0 d1 HX9 HA9
      obtain ⟨W9, hW9⟩ : ∃ W, W = w9.alloc (Obj.cells #[Value.int .i64 p, Value.int .i64 (-1)] 25) := ⟨_, rfl⟩
      have hbW9 : Below w9.heap.size w9 W9 := by rw [hW9]; exact below_new1 _ _
      have hl9 : RBox W9 w9.heap.size p (-1) := by rw [hW9]; exact RBox.new _ _ _
      have ha10 := ha9.below hbW9
      have hc13 := hc12.trans (hbW9.mono hc12.size)
      have k0 := (hbW9.cell (p := ⟨gk, 0, none⟩) hgs).trans k0
      have k1 := (hbW9.cell (p := ⟨gk, 1, none⟩) hgs).trans k1
      go_upto_region 16 with fail
      rw [← hW9]
      clear hW9 ha9 hc12 hbW9
      obtain ⟨l0, l1, _⟩ := cells_of_two hl9
      obtain ⟨m0, m1, _⟩ := cells_of_two ha10
      clear hl9 ha10
      go_quiet (fail)
      have hs3 : (p == p) = true := by simp
      go_wp2
      go_ret
      exact ⟨rfl, below_drewN hc13 _⟩
end Rt
end Go.Proofs.Ytnflilaldamddaa
