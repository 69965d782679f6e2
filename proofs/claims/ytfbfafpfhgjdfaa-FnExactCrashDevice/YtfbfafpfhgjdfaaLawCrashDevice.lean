/-
  impl.CrashDevice answers as the specification; it writes into no argument and keeps nothing of one; its answer owns its memory.
-/
import Derived.Test.YtfbfafpfhgjdfaaRows
import Derived.Test.YtfbfafpfhgjdfaaSpecCrash
import Derived.Test.YtfbfafpfhgjdfaaCrashDev
import Derived.Test.YtfbfafpfhgjdfaaInts
import Derived.Test.YtfbfafpfhgjdfaaIntsOpen
import Derived.Test.YtfbfafpfhgjdfaaLawKit
import Derived.Test.YtfbfafpfhgjdfaaDevEq
import Derived.Test.YtfbfafpfhgjdfaaDevOpen
import Derived.Test.YtfbfafpfhgjdfaaChecked
import Derived.Deep.RegionHeld3
import Derived.ShutString
import Derived.Below
namespace Go.Proofs.Ytfbfafpfhgjdfaa.fnExactCrashDevice
open Go.ChangeShapes Go.WideShapes Go.ChangeAt Go.RowKit
open Go.ChangeMaps (open_string shut_string)

theorem own : ownKnob Try.prog.godebug = none := by kernel_rfl

theorem laidOut : laidOutB Try.prog = true := by kernel_rfl
set_option maxRecDepth 100000 in
set_option maxHeartbeats 4000000 in
theorem walk_in (v : Value) (L : List ByteArray) (Q : List (Int × ByteArray)) (w : World) (ka : Option Addr) (kn kc : Nat) (K : List Int) (torn part : Int) (hkn : kn ≤ 1048576) (hwf : ∀ x ∈ K, (Lit.int .i64 x).wf = true) (htw : (Lit.int .i64 torn).wf = true) (hKA : IntsAt w ka kn w.heap.size K) (hd : DevAt w v w.heap.size L Q) (hS : Sane L Q) :
    Calls Try.prog 13 #[v, .slice ka kn kc, .int .i64 torn, .int .i64 part] w fun e w' => e = .returned (.bool true) ∧ Below w.heap.size w w' := by
  have HD := hide hd
  have HS := hide hS
  have HKA := hide hKA
  have HWF := hide hwf
  have HTW := hide htw
  have hkg0 : ¬ (1048576 : Int) < (kn : Int) := by omega
  obtain ⟨a, n, c, a', n', c', rfl, _, _⟩ := hd
  clear hS hKA hwf htw
  go_enter Try.func13, Try.ntmps13
  go_wp2_with fail
  obtain ⟨W1, hW1⟩ : ∃ W, W = w.alloc (Obj.cells #[Value.slice a n c, Value.slice a' n' c'] 47) := ⟨_, rfl⟩
  rw [← hW1]
  have hs1 : W1.heap.size = w.heap.size + 1 := by rw [hW1]; simp
  have HA : Hid (LBox W1 w.heap.size (Value.slice a n c) (Value.slice a' n' c')) := by show LBox _ _ _ _; rw [hW1]; exact LBox.new _ _ _
  have hb1 : Below w.heap.size w W1 := by rw [hW1]; exact (Below.refl _ _).alloc (Nat.le_refl _) _
  clear hW1
  refine (szDevice_any _ w.heap.size L Q (unhide HS) W1 hb1.size ((unhide HD).below hb1 (Nat.le_refl _))).mono ?_
  rintro e w2 ⟨⟨x, rfl, hx0, hx1, hx2⟩, hb2⟩
  have HX := hide hx2
  have hc2 : Below w.heap.size w w2 := hb1.trans (hb2.mono hb1.size)
  have HA := hide ((unhide HA).below hb2)
  have hz2 : w.heap.size < w2.heap.size := by have := hb2.size; omega
  clear hx2 hb2 hb1
  by_cases hneg : x < 0
  · go_wp2
    go_ret
    exact ⟨rfl, hc2⟩
  · have htot := unhide HX (by omega)
    have hl1 : L.length ≤ 1048576 := by omega
    have hl2 : Q.length ≤ 1048576 := by omega
    have hm : ∀ s ∈ L, s.size ≤ 9223372036854775807 := (unhide HS).2.2.1
    have TO := hide (fun w1 (hb : Below w.heap.size w w1) => toDevice_any _ w.heap.size L Q hl1 hl2 w1 hb.size ((unhide HD).below hb (Nat.le_refl _)))
    have hwf := unhide HWF
    have htw := unhide HTW
    have TI := hide (fun w1 (hb : Below w.heap.size w w1) => toInts_any ka kn kc w.heap.size K hkn w1 hb.size ((unhide HKA).below hb (Nat.le_refl _)))
    have EI := hide (fun w1 a1 c1 a2 c2 (h1 : IntsAt w1 a1 kn w1.heap.size K) (h2 : IntsAt w1 a2 kn w1.heap.size K) => eqInts_same a1 a2 kn c1 c2 w1.heap.size w1.heap.size K hkn w1 (Nat.le_refl _) (Nat.le_refl _) h1 h2)
    have SP := hide (fun w1 d ka0 kc0 (hd : DevAt w1 d w1.heap.size L Q) (hk : IntsAt w1 ka0 kn w1.heap.size K) => specCrash_any d w1.heap.size L Q ka0 kn kc0 K torn part hl1 hl2 hm hkn w1 (Nat.le_refl _) hd hk)
    have IM := hide (fun w1 d ka0 kc0 (hd : DevAt w1 d w1.heap.size L Q) (hk : IntsAt w1 ka0 kn w1.heap.size K) => implCrash_any d w1.heap.size L Q ka0 kn kc0 K torn part hl1 hl2 hm hkn hwf htw w1 (Nat.le_refl _) hd hk)
    have EQ := hide (fun w1 d d' (hd : DevAt w1 d w1.heap.size L Q) (hd' : DevAt w1 d' w1.heap.size L Q) => eqDevice_same d d' w1.heap.size w1.heap.size L Q hl1 hl2 w1 (Nat.le_refl _) (Nat.le_refl _) hd hd')
    have hA1 : (crA L Q K torn part).length ≤ 1048576 := (by have := crA_length L Q K torn part; omega)
    have hA2 : (([] : List (Int × ByteArray))).length ≤ 1048576 := (by simp)
    generalize crA L Q K torn part = LA at SP IM hA1
    generalize ([] : List (Int × ByteArray)) = QA at SP IM hA2
    generalize crOk L Q part = ok at SP IM
    have EA := hide (fun w1 d d' (hd : DevAt w1 d w1.heap.size LA QA) (hd' : DevAt w1 d' w1.heap.size LA QA) => eqDevice_same d d' w1.heap.size w1.heap.size LA QA (by omega) (by omega) w1 (Nat.le_refl _) (Nat.le_refl _) hd hd')
    have MX := hide (fun w1 B d (hd : DevOwn w1 B d L Q) => markDevice_any d B 1 L Q (by omega) (by omega) w1 hd)
    have MG := hide (fun w1 B d (hd : DevOwn w1 B d LA QA) => markDevice_any d B 1 LA QA (by omega) (by omega) w1 hd)
    have HE := hide (fun w1 d (hd : DevAt w1 d w1.heap.size (marks 1 LA.length) (marksQ (1 + LA.length) QA.length)) => heldDevice_any d w1.heap.size 1 LA.length QA.length (by omega) (by omega) w1 (Nat.le_refl _) hd)
    have hkx : ¬ ((1 + L.length + Q.length * 2 : Nat) : Int) < 0 := by omega
    have hkg : ¬ ((1 + LA.length + QA.length * 2 : Nat) : Int) < 0 := by omega
    obtain ⟨kx, hkxe⟩ : ∃ k : Nat, k = 1 + L.length + Q.length * 2 := ⟨_, rfl⟩
    obtain ⟨kg, hkge⟩ : ∃ k : Nat, k = 1 + LA.length + QA.length * 2 := ⟨_, rfl⟩
    rw [← hkxe] at MX hkx
    rw [← hkge] at MG HE hkg
    have MI := hide (fun w1 B v (ho : w1.ownsRow B 3 1 v kn (intsV K)) => markInts_any v B kn kx K (by omega) w1 ho)
    have hki : ¬ ((kx + kn : Nat) : Int) < 0 := by omega
    obtain ⟨ki, hkie⟩ : ∃ k : Nat, k = kx + kn := ⟨_, rfl⟩
    rw [← hkie] at MI hki
    clear hkie hwf htw
    clear htot hl1 hl2 hm hx0 hx1 hA1 hA2 hkxe hkge hs1
    obtain ⟨p0, p1⟩ := (unhide HA).cells
    go_wp2_with fail
    refine (unhide TO w2 hc2).mono ?_
    rintro e w3 ⟨⟨d9, rfl, ho9⟩, hb3⟩
    have HA := hide ((unhide HA).below hb3)
    have hc3 : Below w.heap.size w w3 := hc2.trans (hb3.mono hc2.size)
    have hz3 := hb3.size
    have HO9 := hide ho9
    obtain ⟨a9, n9, c9, b9, m9, k9, rfl, _, _⟩ := ho9.at
    clear ho9 hb3 p0 p1
    go_wp2_with fail
    refine (unhide TI w3 hc3).mono ?_
    rintro e w3b ⟨⟨i9, rfl, hi9⟩, hb3b⟩
    have HA := hide ((unhide HA).below hb3b)
    have HO9 := hide ((unhide HO9).below hb3b)
    have hc3b : Below w.heap.size w w3b := hc3.trans (hb3b.mono hc3.size)
    have hz3b := hb3b.size
    obtain ⟨j9, l9, rfl, hj9⟩ := IntsAt.of_own hi9
    have S1 := hide (unhide SP w3b _ j9 l9 (unhide HO9).at hj9)
    clear hi9 hj9 hb3b
    go_wp2_with fail
    refine (unhide S1).mono ?_
    rintro e w4 ⟨⟨d0, rfl, ho0⟩, hb4⟩
    have HA := hide ((unhide HA).below hb4)
    have hc4 : Below w.heap.size w w4 := hc3b.trans (hb4.mono hc3b.size)
    have hz4 := hb4.size
    have HO0 := hide ho0
    have HK0 := hide ho0.blk
    obtain ⟨a0, n0, c0, b0, m0, k0, rfl, _, _⟩ := ho0.at
    clear ho0 hb4 S1
    obtain ⟨p0, p1⟩ := ((unhide HA).below (below_new w4 (Obj.cells #[Value.slice a0 n0 c0, Value.slice b0 m0 k0] 27))).cells
    go_wp2_with fail
    obtain ⟨W4, hW4⟩ : ∃ W, W = w4.alloc (Obj.cells #[Value.slice a0 n0 c0, Value.slice b0 m0 k0] 27) := ⟨_, rfl⟩
    rw [← hW4]
    have hbW4 : Below w4.heap.size w4 W4 := by rw [hW4]; exact below_new _ _
    have hsW4 : W4.heap.size = w4.heap.size + 1 := by rw [hW4]; simp
    have HA := hide ((unhide HA).below hbW4)
    have HO0 := hide ((unhide HO0).below hbW4)
    have HX0 : Hid (Box W4 w4.heap.size (Value.slice a0 n0 c0) (Value.slice b0 m0 k0)) := by show Box _ _ _ _; rw [hW4]; exact Box.new _ _ _
    have hcW4 : Below w.heap.size w W4 := hc4.trans (hbW4.mono hc4.size)
    clear hW4 hbW4
    refine (unhide TO W4 hcW4).mono ?_
    rintro e w5 ⟨⟨d1, rfl, ho1⟩, hb5⟩
    have HA := hide ((unhide HA).below hb5)
    have HO0 := hide ((unhide HO0).below hb5)
    have HX0 := hide ((unhide HX0).below hb5)
    have hc5 : Below w.heap.size w w5 := hcW4.trans (hb5.mono hcW4.size)
    have hz5 := hb5.size
    have HO1 := hide ho1
    have HK1 := hide ho1.blk
    obtain ⟨a1, n1, c1, b1, m1, k1, rfl, _, _⟩ := ho1.at
    clear ho1 hb5 p0 p1
    go_wp2_with fail
    obtain ⟨W5, hW5⟩ : ∃ W, W = w5.alloc (Obj.cells #[Value.slice a1 n1 c1, Value.slice b1 m1 k1] 27) := ⟨_, rfl⟩
    rw [← hW5]
    have hbW5 : Below w5.heap.size w5 W5 := by rw [hW5]; exact below_new _ _
    have hsW5 : W5.heap.size = w5.heap.size + 1 := by rw [hW5]; simp
    have HA := hide ((unhide HA).below hbW5)
    have HO0 := hide ((unhide HO0).below hbW5)
    have HX0 := hide ((unhide HX0).below hbW5)
    have HO1 := hide ((unhide HO1).below hbW5)
    have HX1 : Hid (Box W5 w5.heap.size (Value.slice a1 n1 c1) (Value.slice b1 m1 k1)) := by show Box _ _ _ _; rw [hW5]; exact Box.new _ _ _
    have hcW5 : Below w.heap.size w W5 := hc5.trans (hbW5.mono hc5.size)
    clear hW5 hbW5
    refine (unhide TI W5 hcW5).mono ?_
    rintro e w5c ⟨⟨i1, rfl, hi1⟩, hb5c⟩
    have HA := hide ((unhide HA).below hb5c)
    have HO0 := hide ((unhide HO0).below hb5c)
    have HX0 := hide ((unhide HX0).below hb5c)
    have HO1 := hide ((unhide HO1).below hb5c)
    have HX1 := hide ((unhide HX1).below hb5c)
    have hc5c : Below w.heap.size w w5c := hcW5.trans (hb5c.mono hcW5.size)
    have hz5c := hb5c.size
    have hj1 := hi1.lt
    have HI := hide hi1
    have HKI := hide hj1
    obtain ⟨j1, l1, rfl, _⟩ := IntsAt.of_own hi1
    clear hi1 hj1 hb5c
    obtain ⟨p0, p1⟩ := (unhide HX1).cells
    go_wp2_with fail
    have S3 := hide (unhide IM w5c _ j1 l1 (unhide HO1).at (by obtain ⟨a, c, e, h⟩ := IntsAt.of_own (unhide HI); simp at e; obtain ⟨rfl, rfl⟩ := e; exact h))
    refine (unhide S3).mono ?_
    rintro e w6 ⟨⟨d2, rfl, ho2⟩, hb6⟩
    have HA := hide ((unhide HA).below hb6)
    have HO0 := hide ((unhide HO0).below hb6)
    have HX0 := hide ((unhide HX0).below hb6)
    have HO1 := hide ((unhide HO1).below hb6)
    have HX1 := hide ((unhide HX1).below hb6)
    have HI := hide (own_below (unhide HI) hb6)
    have hc6 : Below w.heap.size w w6 := hc5c.trans (hb6.mono hc5c.size)
    have hz6 := hb6.size
    clear p0 p1 S3
    have HO2 := hide ho2
    have HK2 := hide ho2.blk
    obtain ⟨a2, n2, c2, b2, m2, k2, rfl, _, _⟩ := ho2.at
    clear ho2 hb6
    obtain ⟨p0, p1⟩ := ((unhide HX0).below (below_new w6 (Obj.cells #[Value.slice a2 n2 c2, Value.slice b2 m2 k2] 27))).cells
    go_wp2_with fail
    obtain ⟨W6, hW6⟩ : ∃ W, W = w6.alloc (Obj.cells #[Value.slice a2 n2 c2, Value.slice b2 m2 k2] 27) := ⟨_, rfl⟩
    rw [← hW6]
    have hbW6 : Below w6.heap.size w6 W6 := by rw [hW6]; exact below_new _ _
    have hsW6 : W6.heap.size = w6.heap.size + 1 := by rw [hW6]; simp
    have HA := hide ((unhide HA).below hbW6)
    have HO0 := hide ((unhide HO0).below hbW6)
    have HX0 := hide ((unhide HX0).below hbW6)
    have HO1 := hide ((unhide HO1).below hbW6)
    have HX1 := hide ((unhide HX1).below hbW6)
    have HI := hide (own_below (unhide HI) hbW6)
    have HO2 := hide ((unhide HO2).below hbW6)
    have HX2 : Hid (Box W6 w6.heap.size (Value.slice a2 n2 c2) (Value.slice b2 m2 k2)) := by show Box _ _ _ _; rw [hW6]; exact Box.new _ _ _
    have hcW6 : Below w.heap.size w W6 := hc6.trans (hbW6.mono hc6.size)
    clear hW6 hbW6
    refine (unhide EA W6 _ _ (unhide HO2).at (unhide HO0).at).mono ?_
    rintro e w7 ⟨rfl, hb7⟩
    have HA := hide ((unhide HA).below hb7)
    have HO0 := hide ((unhide HO0).below hb7)
    have HX0 := hide ((unhide HX0).below hb7)
    have HO1 := hide ((unhide HO1).below hb7)
    have HX1 := hide ((unhide HX1).below hb7)
    have HI := hide (own_below (unhide HI) hb7)
    have HO2 := hide ((unhide HO2).below hb7)
    have HX2 := hide ((unhide HX2).below hb7)
    have hc7 : Below w.heap.size w w7 := hcW6.trans (hb7.mono hcW6.size)
    have hz7 := hb7.size
    clear hb7 p0 p1
    obtain ⟨p0, p1⟩ := (unhide HA).cells
    obtain ⟨r0, r1⟩ := (unhide HX1).cells
    have hk0 : w.heap.size < w7.heap.size := (unhide HA).lt
    have hk5 : w5.heap.size < w7.heap.size := (unhide HX1).lt
    have HO1D := hide ((unhide HO1).at.below ((Below.refl w7.heap.size w7).drew) (Nat.le_refl _))
    have LIVE := hide (fun w8 (hb : Below w7.heap.size w7 w8) => (And.intro ((unhide HA).below hb) (And.intro ((unhide HO0).below hb) (And.intro ((unhide HX0).below hb) (And.intro ((unhide HO1).below hb) (And.intro ((unhide HX1).below hb) (And.intro (own_below (unhide HI) hb) (And.intro ((unhide HO2).below hb) ((unhide HX2).below hb)))))))))
    go_wp2_with fail
    go_region_held3 (fun u => u.cell? ⟨w.heap.size, 0, none⟩ = some (Value.slice a n c) ∧ u.cell? ⟨w.heap.size, 1, none⟩ = some (Value.slice a' n' c') ∧ u.cell? ⟨w5.heap.size, 0, none⟩ = some (Value.slice a1 n1 c1) ∧ u.cell? ⟨w5.heap.size, 1, none⟩ = some (Value.slice b1 m1 k1))
      (first | go_keep | exact ⟨(hb9.cell (p := ⟨w.heap.size, 0, none⟩) l0).trans q0, (hb9.cell (p := ⟨w.heap.size, 1, none⟩) l0).trans q1, (hb9.cell (p := ⟨w5.heap.size, 0, none⟩) l5).trans s0, (hb9.cell (p := ⟨w5.heap.size, 1, none⟩) l5).trans s1⟩ | exact ⟨q0, q1, s0, s1⟩)
      (first
        | (go_at_call 33; refine (unhide TO _ hc7.drew).mono ?_; rintro e w8 ⟨⟨d8, rfl, ho8⟩, hb8⟩; have hd8 := ho8.at; have HO8 := hide (((unhide HO1D).below hb8 (Nat.le_refl _)).mono (show w7.heap.size ≤ w8.heap.size from hb8.size)); have HE8 := hide hd8; obtain ⟨a8, n8, c8, b8, m8, k8, rfl, _, _⟩ := hd8; have q0 := (hb8.cell (p := ⟨w.heap.size, 0, none⟩) hk0).trans p0; have q1 := (hb8.cell (p := ⟨w.heap.size, 1, none⟩) hk0).trans p1; have s0 := (hb8.cell (p := ⟨w5.heap.size, 0, none⟩) hk5).trans r0; have s1 := (hb8.cell (p := ⟨w5.heap.size, 1, none⟩) hk5).trans r1; have l0 : w.heap.size < w8.heap.size := Nat.lt_of_lt_of_le hk0 hb8.size; have l5 : w5.heap.size < w8.heap.size := Nat.lt_of_lt_of_le hk5 hb8.size; have hc8 : Below w.heap.size w w8 := hc7.drew.trans (hb8.mono hc7.size); have hb78 : Below w7.heap.size w7 w8 := (Below.refl w7.heap.size w7).drew.trans hb8; clear ho8 hb8)
        | (go_at_call 34; refine (unhide EQ w8 _ _ (unhide HO8) (unhide HE8)).mono ?_; rintro e w9 ⟨rfl, hb9⟩))
    have hb79 : Below w7.heap.size w7 w9 := hb78.trans (hb9.mono hb78.size)
    obtain ⟨zHA, zHO0, zHX0, zHO1, zHX1, zHI, zHO2, zHX2⟩ := unhide LIVE w9 hb79
    have HA := hide zHA
    have HO0 := hide zHO0
    have HX0 := hide zHX0
    have HO1 := hide zHO1
    have HX1 := hide zHX1
    have HI := hide zHI
    have HO2 := hide zHO2
    have HX2 := hide zHX2
    have hc9 : Below w.heap.size w w9 := hc7.trans (hb79.mono hc7.size)
    have hz9 := hb79.size
    clear hb78 hb79 hb9 hc8 LIVE HO8 HE8 HO1D p0 p1 r0 r1 q0 q1 s0 s1 l0 l5 zHA zHO0 zHX0 zHO1 zHX1 zHI zHO2 zHX2
    go_wp2_with fail
    refine (unhide TI w9 hc9).mono ?_
    rintro e w9b ⟨⟨i8, rfl, hi8⟩, hb9b⟩
    have HA := hide ((unhide HA).below hb9b)
    have HO0 := hide ((unhide HO0).below hb9b)
    have HX0 := hide ((unhide HX0).below hb9b)
    have HO1 := hide ((unhide HO1).below hb9b)
    have HX1 := hide ((unhide HX1).below hb9b)
    have HI := hide (own_below (unhide HI) hb9b)
    have HO2 := hide ((unhide HO2).below hb9b)
    have HX2 := hide ((unhide HX2).below hb9b)
    have hc9b : Below w.heap.size w w9b := hc9.trans (hb9b.mono hc9.size)
    have hz9b := hb9b.size
    obtain ⟨j8, l8, rfl, hj8⟩ := IntsAt.of_own hi8
    have S4 := hide (unhide EI w9b j1 l1 j8 l8 (by obtain ⟨a, c, e, h⟩ := IntsAt.of_own (unhide HI); simp at e; obtain ⟨rfl, rfl⟩ := e; exact h) hj8)
    clear hi8 hj8 hb9b
    go_wp2_with fail
    refine (unhide S4).mono ?_
    rintro e w9c ⟨rfl, hb9c⟩
    have HA := hide ((unhide HA).below hb9c)
    have HO0 := hide ((unhide HO0).below hb9c)
    have HX0 := hide ((unhide HX0).below hb9c)
    have HO1 := hide ((unhide HO1).below hb9c)
    have HX1 := hide ((unhide HX1).below hb9c)
    have HI := hide (own_below (unhide HI) hb9c)
    have HO2 := hide ((unhide HO2).below hb9c)
    have HX2 := hide ((unhide HX2).below hb9c)
    have hc9c : Below w.heap.size w w9c := hc9b.trans (hb9c.mono hc9b.size)
    have hz9c := hb9c.size
    clear hb9c S4
    obtain ⟨p0, p1⟩ := (unhide HX1).cells
    go_wp2_with fail
    refine (unhide MX w9c _ _ (unhide HO1)).mono ?_
    rintro e w10 ⟨rfl, how10, hkw10⟩
    have HA := hide ((unhide HA).kept hkw10 (fun h => by have h3 := unhide HK1 _ h; omega))
    have HO0 := hide ((unhide HO0).kept hkw10 (fun g h0 h1 => by have h2 := unhide HK0 g h0; have h3 := unhide HK1 g h1; omega))
    have HX0 := hide ((unhide HX0).kept hkw10 (fun h => by have h3 := unhide HK1 _ h; omega))
    have HX1 := hide ((unhide HX1).kept hkw10 (fun h => by have h3 := unhide HK1 _ h; omega))
    have HI := hide (hkw10.own (unhide HI) (fun g h0 h1 => by have h2 := unhide HKI g h0; have h3 := unhide HK1 g h1; omega))
    have HO2 := hide ((unhide HO2).kept hkw10 (fun g h0 h1 => by have h2 := unhide HK2 g h0; have h3 := unhide HK1 g h1; omega))
    have HX2 := hide ((unhide HX2).kept hkw10 (fun h => by have h3 := unhide HK1 _ h; omega))
    have HO1 := hide how10
    have hc10 : Below w.heap.size w w10 := hc9c.trans (hkw10.below hc9c.size (fun g hg => by have h3 := unhide HK1 g hg; omega))
    have hz10 := hkw10.2.2.2.1
    clear how10 hkw10
    clear p0 p1
    go_wp2_with fail
    refine (unhide MI w10 _ _ (unhide HI)).mono ?_
    rintro e w10b ⟨rfl, hkw10b⟩
    have HA := hide ((unhide HA).kept hkw10b (fun h => by have h3 := unhide HKI _ h; omega))
    have HO0 := hide ((unhide HO0).kept hkw10b (fun g h0 h1 => by have h2 := unhide HK0 g h0; have h3 := unhide HKI g h1; omega))
    have HX0 := hide ((unhide HX0).kept hkw10b (fun h => by have h3 := unhide HKI _ h; omega))
    have HO2 := hide ((unhide HO2).kept hkw10b (fun g h0 h1 => by have h2 := unhide HK2 g h0; have h3 := unhide HKI g h1; omega))
    have HX2 := hide ((unhide HX2).kept hkw10b (fun h => by have h3 := unhide HKI _ h; omega))
    have hc10b : Below w.heap.size w w10b := hc10.trans (hkw10b.below hc10.size (fun g hg => by have h3 := unhide HKI g hg; omega))
    have hz10b := hkw10b.2.2.2.1
    clear hkw10b
    obtain ⟨p0, p1⟩ := (unhide HX2).cells
    obtain ⟨r0, r1⟩ := (unhide HX0).cells
    go_wp2_with fail
    refine (unhide EA w10b _ _ (unhide HO2).at (unhide HO0).at).mono ?_
    rintro e w11 ⟨rfl, hb11⟩
    have HA := hide ((unhide HA).below hb11)
    have HO0 := hide ((unhide HO0).below hb11)
    have HX0 := hide ((unhide HX0).below hb11)
    have HO2 := hide ((unhide HO2).below hb11)
    have HX2 := hide ((unhide HX2).below hb11)
    have hc11 : Below w.heap.size w w11 := hc10b.trans (hb11.mono hc10b.size)
    have hz11 := hb11.size
    clear hb11 p0 p1 r0 r1
    obtain ⟨p0, p1⟩ := (unhide HX2).cells
    go_wp2_with fail
    refine (unhide MG w11 _ _ (unhide HO2)).mono ?_
    rintro e w12 ⟨rfl, how12, hkw12⟩
    have HA := hide ((unhide HA).kept hkw12 (fun h => by have h3 := unhide HK2 _ h; omega))
    have HO0 := hide ((unhide HO0).kept hkw12 (fun g h0 h1 => by have h2 := unhide HK0 g h0; have h3 := unhide HK2 g h1; omega))
    have HX0 := hide ((unhide HX0).kept hkw12 (fun h => by have h3 := unhide HK2 _ h; omega))
    have HX2 := hide ((unhide HX2).kept hkw12 (fun h => by have h3 := unhide HK2 _ h; omega))
    have HO2 := hide how12
    have hc12 : Below w.heap.size w w12 := hc11.trans (hkw12.below hc11.size (fun g hg => by have h3 := unhide HK2 g hg; omega))
    have hz12 := hkw12.2.2.2.1
    clear how12 hkw12
    clear p0 p1
    obtain ⟨p0, p1⟩ := (unhide HX2).cells
    go_wp2_with fail
    refine (unhide HE w12 _ (by have h := (unhide HO2).at; simpa only [marks_length, marksQ_length] using h)).mono ?_
    rintro e w13 ⟨rfl, hb13⟩
    have HA := hide ((unhide HA).below hb13)
    have HO0 := hide ((unhide HO0).below hb13)
    have HX0 := hide ((unhide HX0).below hb13)
    have HO2 := hide ((unhide HO2).below hb13)
    have HX2 := hide ((unhide HX2).below hb13)
    have hc13 : Below w.heap.size w w13 := hc12.trans (hb13.mono hc12.size)
    have hz13 := hb13.size
    clear hb13 p0 p1
    obtain ⟨p0, p1⟩ := (unhide HA).cells
    go_wp2_with fail
    refine (unhide TO w13 hc13).mono ?_
    rintro e w14 ⟨⟨d7, rfl, ho7⟩, hb14⟩
    have HA := hide ((unhide HA).below hb14)
    have HO0 := hide ((unhide HO0).below hb14)
    have HX0 := hide ((unhide HX0).below hb14)
    have HO2 := hide ((unhide HO2).below hb14)
    have HX2 := hide ((unhide HX2).below hb14)
    have hc14 : Below w.heap.size w w14 := hc13.trans (hb14.mono hc13.size)
    have hz14 := hb14.size
    have HO7 := hide ho7
    obtain ⟨a7, n7, c7, b7, m7, k7, rfl, _, _⟩ := ho7.at
    clear ho7 hb14 p0 p1
    go_wp2_with fail
    refine (unhide TI w14 hc14).mono ?_
    rintro e w14b ⟨⟨i7, rfl, hi7⟩, hb14b⟩
    have HA := hide ((unhide HA).below hb14b)
    have HO0 := hide ((unhide HO0).below hb14b)
    have HX0 := hide ((unhide HX0).below hb14b)
    have HO2 := hide ((unhide HO2).below hb14b)
    have HX2 := hide ((unhide HX2).below hb14b)
    have HO7 := hide ((unhide HO7).below hb14b)
    have hc14b : Below w.heap.size w w14b := hc14.trans (hb14b.mono hc14.size)
    have hz14b := hb14b.size
    obtain ⟨j7, l7, rfl, hj7⟩ := IntsAt.of_own hi7
    have S2 := hide (unhide IM w14b _ j7 l7 (unhide HO7).at hj7)
    clear hi7 hj7 hb14b
    go_wp2_with fail
    refine (unhide S2).mono ?_
    rintro e w15 ⟨⟨d3, rfl, ho3⟩, hb15⟩
    have HA := hide ((unhide HA).below hb15)
    have HO0 := hide ((unhide HO0).below hb15)
    have HX0 := hide ((unhide HX0).below hb15)
    have HO2 := hide ((unhide HO2).below hb15)
    have HX2 := hide ((unhide HX2).below hb15)
    have hc15 : Below w.heap.size w w15 := hc14b.trans (hb15.mono hc14b.size)
    have hz15 := hb15.size
    have HO3 := hide ho3
    have HK3 := hide ho3.blk
    obtain ⟨a3, n3, c3, b3, m3, k3, rfl, _, _⟩ := ho3.at
    clear ho3 hb15 S2
    obtain ⟨p0, p1⟩ := ((unhide HX0).below (below_new w15 (Obj.cells #[Value.slice a3 n3 c3, Value.slice b3 m3 k3] 27))).cells
    go_wp2_with fail
    obtain ⟨W15, hW15⟩ : ∃ W, W = w15.alloc (Obj.cells #[Value.slice a3 n3 c3, Value.slice b3 m3 k3] 27) := ⟨_, rfl⟩
    rw [← hW15]
    have hbW15 : Below w15.heap.size w15 W15 := by rw [hW15]; exact below_new _ _
    have hsW15 : W15.heap.size = w15.heap.size + 1 := by rw [hW15]; simp
    have HA := hide ((unhide HA).below hbW15)
    have HO0 := hide ((unhide HO0).below hbW15)
    have HX0 := hide ((unhide HX0).below hbW15)
    have HO2 := hide ((unhide HO2).below hbW15)
    have HX2 := hide ((unhide HX2).below hbW15)
    have HO3 := hide ((unhide HO3).below hbW15)
    have HX3 : Hid (Box W15 w15.heap.size (Value.slice a3 n3 c3) (Value.slice b3 m3 k3)) := by show Box _ _ _ _; rw [hW15]; exact Box.new _ _ _
    have hcW15 : Below w.heap.size w W15 := hc15.trans (hbW15.mono hc15.size)
    clear hW15 hbW15
    refine (unhide EA W15 _ _ (unhide HO3).at (unhide HO0).at).mono ?_
    rintro e w16 ⟨rfl, hb16⟩
    have HA := hide ((unhide HA).below hb16)
    have HO0 := hide ((unhide HO0).below hb16)
    have HX0 := hide ((unhide HX0).below hb16)
    have HO2 := hide ((unhide HO2).below hb16)
    have HX2 := hide ((unhide HX2).below hb16)
    have HO3 := hide ((unhide HO3).below hb16)
    have HX3 := hide ((unhide HX3).below hb16)
    have hc16 : Below w.heap.size w w16 := hcW15.trans (hb16.mono hcW15.size)
    have hz16 := hb16.size
    clear hb16 p0 p1
    obtain ⟨p0, p1⟩ := (unhide HX2).cells
    go_wp2_with fail
    refine (unhide HE w16 _ (by have h := (unhide HO2).at; simpa only [marks_length, marksQ_length] using h)).mono ?_
    rintro e w17 ⟨rfl, hb17⟩
    have HA := hide ((unhide HA).below hb17)
    have HO0 := hide ((unhide HO0).below hb17)
    have HX0 := hide ((unhide HX0).below hb17)
    have HO2 := hide ((unhide HO2).below hb17)
    have HX2 := hide ((unhide HX2).below hb17)
    have HO3 := hide ((unhide HO3).below hb17)
    have HX3 := hide ((unhide HX3).below hb17)
    have hc17 : Below w.heap.size w w17 := hc16.trans (hb17.mono hc16.size)
    have hz17 := hb17.size
    clear hb17 p0 p1
    go_wp2
    go_ret
    exact ⟨rfl, hc17⟩

theorem walk (v : Value) (L : List ByteArray) (Q : List (Int × ByteArray)) (ka : Option Addr) (kn kc : Nat) (K : List Int) (torn part : Int) (w : World) (hd : DevAt w v w.heap.size L Q) (hS : Sane L Q) (hKA : IntsAt w ka kn w.heap.size K) (hwf : ∀ x ∈ K, (Lit.int .i64 x).wf = true) (hkm : kn ≤ 9223372036854775807) (htw : (Lit.int .i64 torn).wf = true) :
    Calls Try.prog 13 #[v, .slice ka kn kc, .int .i64 torn, .int .i64 part] w fun e w' => e = .returned (.bool true) ∧ Below w.heap.size w w' := by
  by_cases hkn : (1048576 : Int) < (kn : Int)
  · obtain ⟨a, n, c, a', n', c', rfl, _, _⟩ := hd
    go_enter Try.func13, Try.ntmps13
    go_wp2
    go_ret
    exact ⟨rfl, (Below.refl _ _).alloc (Nat.le_refl _) _⟩
  · exact walk_in v L Q w ka kn kc K torn part (by omega) hwf htw hKA hd hS

set_option maxRecDepth 100000 in
theorem lifted (os : Os) (started : os.Started) (H : Type) (enc : TypeId × Value → H) :
    ReturnsInHanded {} Try.checked os 13 .any (Rows.fnExactCrashDeviceSpec.pre6 enc Try.prog Try.f13 Rows.fnExactCrashDeviceRow.domain false) (Rows.fnExactCrashDeviceSpec.post enc Try.prog Try.f13 false true false false) := by
  refine returnsInHanded_of_change (C := Try.checked) own started (by kernel_rfl) Try.func13
    (ChangeSpec.witness6 (enc := enc) (C := Try.checked) false ⟨#[], #[.agg #[.slice none 0 0, .slice none 0 0], .slice none 0 0, .int .i64 0, .int .i64 0], []⟩ 8 (by kernel_rfl) (by kernel_rfl) (by kernel_rfl) (by kernel_rfl)) ?_
  intro W base args ds gs before hval0 hW _ _
  have hval : ∀ (j : Nat) t v, Try.f13.params[j]? = some t → args[j]? = some v → Value.okWide Try.prog W .any base t v := hval0
  have hW' := hW
  obtain ⟨p, q, hA0, hV, rfl, hfz, hnd⟩ := hW
  have hA : DataW.TrodAll enc Try.prog W 0 (fun _ => true) true Try.f13.params.toList args.toList ds p := hA0
  rw [Try.params13] at hA hval
  obtain ⟨v0, vs0, d0, ds0, p0, q0, hargs, rfl, rfl, h0, r0⟩ := trodAll_cons hA
  obtain ⟨v1, vs1, d1, ds1, p1, q1, rfl, rfl, rfl, h1, r1⟩ := trodAll_cons r0
  obtain ⟨v2, vs2, d2, ds2, p2, q2, rfl, rfl, rfl, h2, r2⟩ := trodAll_cons r1
  obtain ⟨v3, vs3, d3, ds3, p3, q3, rfl, rfl, rfl, h3, r3⟩ := trodAll_cons r2
  obtain ⟨rfl, rfl, rfl⟩ := trodAll_nil r3
  obtain rfl : args = #[v0, v1, v2, v3] := by cases args; simp_all
  obtain ⟨rfl, rfl⟩ := trodVars_none hV
  have k0 := h0
  have lt0 : ∀ x ∈ p0, x.block < W.heap.size := by obtain ⟨m, hm⟩ := k0; exact DataW.trod_lt m _ _ _ hm
  obtain ⟨L0, Q0, hd0, hn0⟩ := dev_open (fun _ => rfl) (hval 0 47 v0 rfl rfl) h0
  obtain ⟨a1, len1, cap1, rfl⟩ := okWide_slice Try.underlying29 (hval 1 29 v1 rfl rfl)
  have k1 := h1
  have lt1 : ∀ x ∈ p1, x.block < W.heap.size := by obtain ⟨m, hm⟩ := k1; exact DataW.trod_lt m _ _ _ hm
  obtain ⟨z1, hz1, wz1, nm1⟩ : ∃ K, IntsAt W a1 len1 W.heap.size K ∧ (∀ x ∈ K, (Lit.int .i64 x).wf = true) ∧ len1 ≤ 9223372036854775807 := by
    obtain ⟨fuel, hf⟩ := h1
    obtain ⟨a, n, c, K, hcs, hK, hw, hn⟩ := ints_open (fun _ => rfl) hf
    simp [Value.cells] at hcs
    obtain ⟨rfl, rfl, rfl⟩ := hcs
    exact ⟨K, hK, hw, hn⟩
  obtain ⟨a2, rfl, rfl, rfl, m2⟩ := open_int Try.underlying3 (hval 2 3 v2 rfl rfl) h2
  obtain ⟨a3, rfl, rfl, rfl, m3⟩ := open_int Try.underlying3 (hval 3 3 v3 rfl rfl) h3
  clear hA0 hval0
  refine (walk v0 L0 Q0 a1 len1 cap1 z1 a2 a3 W hd0 hn0 hz1 wz1 nm1 m2).mono fun e W' ⟨he, bel⟩ => ?_
  subst he
  exact ⟨_, rfl, _, _, _, [], _, [], hW', trodAll_mk1 (shut_bool Try.underlying4 _), (trodAll_cons_mk (Below.trod laidOut (by kernel_rfl) (of_decide_eq_true (by kernel_rfl)) k0 bel lt0) (trodAll_cons_mk (Below.trod laidOut (by kernel_rfl) (of_decide_eq_true (by kernel_rfl)) k1 bel lt1) (trodAll_cons_mk (shut_int Try.underlying3 m2) (trodAll_cons_mk (shut_int Try.underlying3 m3) trodAll_mk0)))), rfl, bel.frame _, fun h => by cases h⟩

theorem over : Rows.fnExactCrashDeviceRow.holds Try.pinned (OpenSpec.ofChange Rows.fnExactCrashDeviceSpec) :=
  OpenClaim.holds_of_wide 13 Try.f13 rfl rfl rfl rfl rfl rfl rfl ⟨rfl, rfl, rfl, rfl, rfl⟩ rfl rfl rfl rfl rfl (by kernel_rfl) Try.func13 (by kernel_rfl)
    (of_decide_eq_true (by kernel_rfl)) (by unfold Func.isWrapper; first | (rw [if_pos (by decide +kernel)]; kernel_rfl) | (rw [if_neg (by decide +kernel)]; exact ⟨rfl, rfl⟩))
    (fun os started H enc _ => lifted os started H enc)

end Go.Proofs.Ytfbfafpfhgjdfaa.fnExactCrashDevice
namespace Go.Proofs.Ytfbfafpfhgjdfaa
theorem fnExactCrashDevice_holds : Rows.FnExactCrashDeviceSaid := fnExactCrashDevice.over
#print axioms fnExactCrashDevice_holds
end Go.Proofs.Ytfbfafpfhgjdfaa
