/-
  impl.FreeOf answers as the specification; it writes into no argument and keeps nothing of one; its answer owns its memory.
-/
import Derived.Test.YtdmcnojhjmadjaaRows
import Derived.Test.YtdmcnojhjmadjaaTrMarks
import Derived.Test.YtdmcnojhjmadjaaLawKit
import Derived.Test.YtdmcnojhjmadjaaIntsOpen
import Derived.Test.YtdmcnojhjmadjaaDevEq
import Derived.Test.YtdmcnojhjmadjaaDevOpen
import Derived.Test.YtdmcnojhjmadjaaChecked
import Derived.Deep.RegionHeld3
import Derived.ShutString
import Derived.Below
namespace Go.Proofs.Ytdmcnojhjmadjaa.fnExactFreeOf
open Go.ChangeShapes Go.WideShapes Go.ChangeAt Go.RowKit
open Go.ChangeMaps (open_string shut_string)

theorem own : ownKnob Try.prog.godebug = none := by kernel_rfl

theorem laidOut : laidOutB Try.prog = true := by kernel_rfl
set_option maxRecDepth 100000 in
set_option maxHeartbeats 4000000 in
theorem walk_in (v : Value) (L : List ByteArray) (Q : List (Int × ByteArray)) (w : World) (ka : Option Addr) (kn kc : Nat) (K : List Int) (hkn : kn ≤ 1048576) (hKA : IntsAt w ka kn w.heap.size K) (hd : DevAt w v w.heap.size L Q) (hS : Sane L Q) :
    Calls Try.prog 5 #[v, .slice ka kn kc] w fun e w' => e = .returned (.bool true) ∧ Below w.heap.size w w' := by
  have HD := hide hd
  have HS := hide hS
  have HKA := hide hKA
  have hkg0 : ¬ (1048576 : Int) < (kn : Int) := by omega
  obtain ⟨a, n, c, a', n', c', rfl, _, _⟩ := hd
  clear hS hKA
  go_enter Try.func5, Try.ntmps5
  go_wp2_with fail
  obtain ⟨W1, hW1⟩ : ∃ W, W = w.alloc (Obj.cells #[Value.slice a n c, Value.slice a' n' c'] 43) := ⟨_, rfl⟩
  rw [← hW1]
  have hs1 : W1.heap.size = w.heap.size + 1 := by rw [hW1]; simp
  have HA : Hid (LBox W1 w.heap.size (Value.slice a n c) (Value.slice a' n' c')) := by show LBox _ _ _ _; rw [hW1]; exact LBox.new _ _ _
  have hb1 : Below w.heap.size w W1 := by rw [hW1]; exact (Below.refl _ _).alloc (Nat.le_refl _) _
  clear hW1
  refine (szDevice_any _ w.heap.size L Q (unhide HS) W1 hb1.size ((unhide HD).below hb1 (Nat.le_refl _))).mono ?_
  rintro e w2 ⟨⟨x, rfl, hx0, hx1, hx2⟩, hb2⟩
  have HX := hide hx2
  have hc2 : Below w.heap.size w w2 := hb1.trans (hb2.mono hb1.size)
  have HA := hide ((unhide HA).below hb2)
  have hz2 : w.heap.size < w2.heap.size := by have := hb2.size; omega
  clear hx2 hb2 hb1
  by_cases hneg : x < 0
  · go_wp2
    go_ret
    exact ⟨rfl, hc2⟩
  · have htot := unhide HX (by omega)
    have hl1 : L.length ≤ 1048576 := by omega
    have hl2 : Q.length ≤ 1048576 := by omega
    have hm : ∀ s ∈ L, s.size ≤ 9223372036854775807 := (unhide HS).2.2.1
    have TO := hide (fun w1 (hb : Below w.heap.size w w1) => toDevice_any _ w.heap.size L Q hl1 hl2 w1 hb.size ((unhide HD).below hb (Nat.le_refl _)))
    have TI := hide (fun w1 (hb : Below w.heap.size w w1) => toInts_any ka kn kc w.heap.size K hkn w1 hb.size ((unhide HKA).below hb (Nat.le_refl _)))
    have EI := hide (fun w1 a1 c1 a2 c2 (h1 : IntsAt w1 a1 kn w1.heap.size K) (h2 : IntsAt w1 a2 kn w1.heap.size K) => eqInts_same a1 a2 kn c1 c2 w1.heap.size w1.heap.size K hkn w1 (Nat.le_refl _) (Nat.le_refl _) h1 h2)
    have SP := hide (fun w1 d ka0 kc0 (hd : DevAt w1 d w1.heap.size L Q) (hk : IntsAt w1 ka0 kn w1.heap.size K) => Tr.specFree_any d w1.heap.size L Q ka0 kn kc0 K hl1 hl2 hkn hm w1 (Nat.le_refl _) hd hk)
    have IM := hide (fun w1 d ka0 kc0 (hd : DevAt w1 d w1.heap.size L Q) (hk : IntsAt w1 ka0 kn w1.heap.size K) => Tr.implFree_any d w1.heap.size L Q ka0 kn kc0 K hl1 hl2 hkn hm w1 (Nat.le_refl _) hd hk)
    have EQ := hide (fun w1 d d' (hd : DevAt w1 d w1.heap.size L Q) (hd' : DevAt w1 d' w1.heap.size L Q) => eqDevice_same d d' w1.heap.size w1.heap.size L Q hl1 hl2 w1 (Nat.le_refl _) (Nat.le_refl _) hd hd')
    have hF := Tr.freeL_length L Q K
    generalize Tr.freeL L Q K = F at SP IM hF
    obtain ⟨f, hf⟩ : ∃ f, f = F.length := ⟨_, rfl⟩
    rw [← hf] at SP IM hF
    clear hf
    have hfl : f ≤ 1048576 := by omega
    have EF := hide (fun w1 a1 c1 a2 c2 (h1 : IntsAt w1 a1 f w1.heap.size F) (h2 : IntsAt w1 a2 f w1.heap.size F) => eqInts_same a1 a2 f c1 c2 w1.heap.size w1.heap.size F hfl w1 (Nat.le_refl _) (Nat.le_refl _) h1 h2)
    have MX := hide (fun w1 B d (hd : DevOwn w1 B d L Q) => markDevice_any d B 1 L Q (by omega) (by omega) w1 hd)
    have hkx : ¬ ((1 + L.length + Q.length * 2 : Nat) : Int) < 0 := by omega
    obtain ⟨kx, hkxe⟩ : ∃ k : Nat, k = 1 + L.length + Q.length * 2 := ⟨_, rfl⟩
    rw [← hkxe] at MX hkx
    have MI := hide (fun w1 B v (ho : w1.ownsRow B 3 1 v kn (intsV K)) => markInts_any v B kn kx K (by omega) w1 ho)
    have hki : ¬ ((kx + kn : Nat) : Int) < 0 := by omega
    obtain ⟨ki, hkie⟩ : ∃ k : Nat, k = kx + kn := ⟨_, rfl⟩
    rw [← hkie] at MI hki
    have MF := hide (fun w1 B v (ho : w1.ownsRow B 3 1 v f (intsV F)) => Tr.markInts_to v B f 1 F (by omega) w1 ho)
    have HF := hide (fun w1 a1 c1 (h1 : IntsAt w1 a1 f w1.heap.size (Tr.marksN 1 f)) => Tr.heldInts_any a1 f c1 w1.heap.size 1 (by omega) w1 h1)
    have hkf : ¬ ((1 + f : Nat) : Int) < 0 := by omega
    obtain ⟨kf, hkfe⟩ : ∃ k : Nat, k = 1 + f := ⟨_, rfl⟩
    rw [← hkfe] at MF HF hkf
    clear hkie hkfe htot hl1 hl2 hm hx0 hx1 hkxe hs1 hF hfl
    obtain ⟨p0, p1⟩ := (unhide HA).cells
    go_wp2_with fail
    refine (unhide TO w2 hc2).mono ?_
    rintro e w3 ⟨⟨d9, rfl, ho9⟩, hb3⟩
    have HA := hide ((unhide HA).below hb3)
    have hc3 : Below w.heap.size w w3 := hc2.trans (hb3.mono hc2.size)
    have hz3 := hb3.size
    have HO9 := hide ho9
    have HK9 := hide ho9.blk
    obtain ⟨a9, n9, c9, b9, m9, k9, rfl, _, _⟩ := ho9.at
    clear ho9 hb3 p0 p1
    go_wp2_with fail
    refine (unhide TI w3 hc3).mono ?_
    rintro e w3b ⟨⟨i9, rfl, hi9⟩, hb3b⟩
    have HA := hide ((unhide HA).below hb3b)
    have HO9 := hide ((unhide HO9).below hb3b)
    have hc3b : Below w.heap.size w w3b := hc3.trans (hb3b.mono hc3.size)
    have hz3b := hb3b.size
    obtain ⟨j9, l9, rfl, hj9⟩ := IntsAt.of_own hi9
    have S1 := hide (unhide SP w3b _ j9 l9 (unhide HO9).at hj9)
    clear hi9 hj9 hb3b HO9 HK9
    go_wp2_with fail
    refine (unhide S1).mono ?_
    rintro e w4 ⟨⟨r0, rfl, hr0⟩, hb4⟩
    have HA := hide ((unhide HA).below hb4)
    have hc4 : Below w.heap.size w w4 := hc3b.trans (hb4.mono hc3b.size)
    have hz4 := hb4.size
    have HR0 := hide hr0
    have HL0 := hide hr0.lt
    obtain ⟨A0, C0, rfl, _⟩ := IntsAt.of_own hr0
    clear hr0 hb4 S1
    obtain ⟨p0, p1⟩ := (unhide HA).cells
    go_wp2_with fail
    refine (unhide TO w4 hc4).mono ?_
    rintro e w5 ⟨⟨d1, rfl, ho1⟩, hb5⟩
    have HA := hide ((unhide HA).below hb5)
    have HR0 := hide (own_below (unhide HR0) hb5)
    have hc5 : Below w.heap.size w w5 := hc4.trans (hb5.mono hc4.size)
    have hz5 := hb5.size
    have HO1 := hide ho1
    have HK1 := hide ho1.blk
    obtain ⟨a1, n1, c1, b1, m1, k1, rfl, _, _⟩ := ho1.at
    clear ho1 hb5 p0 p1
    go_wp2_with fail
    obtain ⟨W5, hW5⟩ : ∃ W, W = w5.alloc (Obj.cells #[Value.slice a1 n1 c1, Value.slice b1 m1 k1] 49) := ⟨_, rfl⟩
    rw [← hW5]
    have hbW5 : Below w5.heap.size w5 W5 := by rw [hW5]; exact below_new _ _
    have hsW5 : W5.heap.size = w5.heap.size + 1 := by rw [hW5]; simp
    have HA := hide ((unhide HA).below hbW5)
    have HR0 := hide (own_below (unhide HR0) hbW5)
    have HO1 := hide ((unhide HO1).below hbW5)
    have HX1 : Hid (Box W5 w5.heap.size (Value.slice a1 n1 c1) (Value.slice b1 m1 k1)) := by show Box _ _ _ _; rw [hW5]; exact Box.new _ _ _
    have hcW5 : Below w.heap.size w W5 := hc5.trans (hbW5.mono hc5.size)
    clear hW5 hbW5
    refine (unhide TI W5 hcW5).mono ?_
    rintro e w5c ⟨⟨i1, rfl, hi1⟩, hb5c⟩
    have HA := hide ((unhide HA).below hb5c)
    have HR0 := hide (own_below (unhide HR0) hb5c)
    have HO1 := hide ((unhide HO1).below hb5c)
    have HX1 := hide ((unhide HX1).below hb5c)
    have hc5c : Below w.heap.size w w5c := hcW5.trans (hb5c.mono hcW5.size)
    have hz5c := hb5c.size
    have HI := hide hi1
    have HKI := hide hi1.lt
    obtain ⟨j1, l1, rfl, _⟩ := IntsAt.of_own hi1
    clear hi1 hb5c
    obtain ⟨p0, p1⟩ := (unhide HX1).cells
    go_wp2_with fail
    have S3 := hide (unhide IM w5c _ j1 l1 (unhide HO1).at (by obtain ⟨a, c, e, h⟩ := IntsAt.of_own (unhide HI); simp at e; obtain ⟨rfl, rfl⟩ := e; exact h))
    refine (unhide S3).mono ?_
    rintro e w6 ⟨⟨r2, rfl, hr2⟩, hb6⟩
    have HA := hide ((unhide HA).below hb6)
    have HR0 := hide (own_below (unhide HR0) hb6)
    have HO1 := hide ((unhide HO1).below hb6)
    have HX1 := hide ((unhide HX1).below hb6)
    have HI := hide (own_below (unhide HI) hb6)
    have hc6 : Below w.heap.size w w6 := hc5c.trans (hb6.mono hc5c.size)
    have hz6 := hb6.size
    have HR2 := hide hr2
    have HL2 := hide hr2.lt
    obtain ⟨A2, C2, rfl, _⟩ := IntsAt.of_own hr2
    clear hr2 hb6 S3 p0 p1
    have S4 := hide (unhide EF w6 A2 C2 A0 C0 (by obtain ⟨a, c, e, h⟩ := IntsAt.of_own (unhide HR2); simp at e; obtain ⟨rfl, rfl⟩ := e; exact h) (by obtain ⟨a, c, e, h⟩ := IntsAt.of_own (unhide HR0); simp at e; obtain ⟨rfl, rfl⟩ := e; exact h))
    go_wp2_with fail
    refine (unhide S4).mono ?_
    rintro e w7 ⟨rfl, hb7⟩
    have HA := hide ((unhide HA).below hb7)
    have HR0 := hide (own_below (unhide HR0) hb7)
    have HO1 := hide ((unhide HO1).below hb7)
    have HX1 := hide ((unhide HX1).below hb7)
    have HI := hide (own_below (unhide HI) hb7)
    have HR2 := hide (own_below (unhide HR2) hb7)
    have hc7 : Below w.heap.size w w7 := hc6.trans (hb7.mono hc6.size)
    have hz7 := hb7.size
    clear hb7 S4
    obtain ⟨p0, p1⟩ := (unhide HA).cells
    obtain ⟨r0, r1⟩ := (unhide HX1).cells
    have hk0 : w.heap.size < w7.heap.size := (unhide HA).lt
    have hk5 : w5.heap.size < w7.heap.size := (unhide HX1).lt
    have HO1D := hide ((unhide HO1).at.below ((Below.refl w7.heap.size w7).drew) (Nat.le_refl _))
    have LIVE := hide (fun w8 (hb : Below w7.heap.size w7 w8) => (And.intro ((unhide HA).below hb) (And.intro (own_below (unhide HR0) hb) (And.intro ((unhide HO1).below hb) (And.intro ((unhide HX1).below hb) (And.intro (own_below (unhide HI) hb) (own_below (unhide HR2) hb)))))))
    go_wp2_with fail
    go_region_held3 (fun u => u.cell? ⟨w.heap.size, 0, none⟩ = some (Value.slice a n c) ∧ u.cell? ⟨w.heap.size, 1, none⟩ = some (Value.slice a' n' c') ∧ u.cell? ⟨w5.heap.size, 0, none⟩ = some (Value.slice a1 n1 c1) ∧ u.cell? ⟨w5.heap.size, 1, none⟩ = some (Value.slice b1 m1 k1))
      (first | go_keep | exact ⟨(hb9.cell (p := ⟨w.heap.size, 0, none⟩) l0).trans q0, (hb9.cell (p := ⟨w.heap.size, 1, none⟩) l0).trans q1, (hb9.cell (p := ⟨w5.heap.size, 0, none⟩) l5).trans s0, (hb9.cell (p := ⟨w5.heap.size, 1, none⟩) l5).trans s1⟩ | exact ⟨q0, q1, s0, s1⟩)
      (first
        | (go_at_call 22; refine (unhide TO _ hc7.drew).mono ?_; rintro e w8 ⟨⟨d8, rfl, ho8⟩, hb8⟩; have hd8 := ho8.at; have HO8 := hide (((unhide HO1D).below hb8 (Nat.le_refl _)).mono (show w7.heap.size ≤ w8.heap.size from hb8.size)); have HE8 := hide hd8; obtain ⟨a8, n8, c8, b8, m8, k8, rfl, _, _⟩ := hd8; have q0 := (hb8.cell (p := ⟨w.heap.size, 0, none⟩) hk0).trans p0; have q1 := (hb8.cell (p := ⟨w.heap.size, 1, none⟩) hk0).trans p1; have s0 := (hb8.cell (p := ⟨w5.heap.size, 0, none⟩) hk5).trans r0; have s1 := (hb8.cell (p := ⟨w5.heap.size, 1, none⟩) hk5).trans r1; have l0 : w.heap.size < w8.heap.size := Nat.lt_of_lt_of_le hk0 hb8.size; have l5 : w5.heap.size < w8.heap.size := Nat.lt_of_lt_of_le hk5 hb8.size; have hc8 : Below w.heap.size w w8 := hc7.drew.trans (hb8.mono hc7.size); have hb78 : Below w7.heap.size w7 w8 := (Below.refl w7.heap.size w7).drew.trans hb8; clear ho8 hb8)
        | (go_at_call 26; refine (unhide EQ w8 _ _ (unhide HO8) (unhide HE8)).mono ?_; rintro e w9 ⟨rfl, hb9⟩))
    have hb79 : Below w7.heap.size w7 w9 := hb78.trans (hb9.mono hb78.size)
    obtain ⟨zHA, zHR0, zHO1, zHX1, zHI, zHR2⟩ := unhide LIVE w9 hb79
    have HA := hide zHA
    have HR0 := hide zHR0
    have HO1 := hide zHO1
    have HX1 := hide zHX1
    have HI := hide zHI
    have HR2 := hide zHR2
    have hc9 : Below w.heap.size w w9 := hc7.trans (hb79.mono hc7.size)
    have hz9 := hb79.size
    clear hb78 hb79 hb9 hc8 LIVE HO8 HE8 HO1D p0 p1 r0 r1 q0 q1 s0 s1 l0 l5 zHA zHR0 zHO1 zHX1 zHI zHR2
    go_wp2_with fail
    refine (unhide TI w9 hc9).mono ?_
    rintro e w9b ⟨⟨i8, rfl, hi8⟩, hb9b⟩
    have HA := hide ((unhide HA).below hb9b)
    have HR0 := hide (own_below (unhide HR0) hb9b)
    have HO1 := hide ((unhide HO1).below hb9b)
    have HX1 := hide ((unhide HX1).below hb9b)
    have HI := hide (own_below (unhide HI) hb9b)
    have HR2 := hide (own_below (unhide HR2) hb9b)
    have hc9b : Below w.heap.size w w9b := hc9.trans (hb9b.mono hc9.size)
    have hz9b := hb9b.size
    obtain ⟨j8, l8, rfl, hj8⟩ := IntsAt.of_own hi8
    have S4 := hide (unhide EI w9b j1 l1 j8 l8 (by obtain ⟨a, c, e, h⟩ := IntsAt.of_own (unhide HI); simp at e; obtain ⟨rfl, rfl⟩ := e; exact h) hj8)
    clear hi8 hj8 hb9b
    go_wp2_with fail
    refine (unhide S4).mono ?_
    rintro e w9c ⟨rfl, hb9c⟩
    have HA := hide ((unhide HA).below hb9c)
    have HR0 := hide (own_below (unhide HR0) hb9c)
    have HO1 := hide ((unhide HO1).below hb9c)
    have HX1 := hide ((unhide HX1).below hb9c)
    have HI := hide (own_below (unhide HI) hb9c)
    have HR2 := hide (own_below (unhide HR2) hb9c)
    have hc9c : Below w.heap.size w w9c := hc9b.trans (hb9c.mono hc9b.size)
    have hz9c := hb9c.size
    clear hb9c S4
    obtain ⟨p0, p1⟩ := (unhide HX1).cells
    go_wp2_with fail
    refine (unhide MX w9c _ _ (unhide HO1)).mono ?_
    rintro e w10 ⟨rfl, how10, hkw10⟩
    have HA := hide ((unhide HA).kept hkw10 (fun h => by have h3 := unhide HK1 _ h; omega))
    have HR0 := hide (hkw10.own (unhide HR0) (fun g h0 h1 => by have h2 := unhide HL0 g h0; have h3 := unhide HK1 g h1; omega))
    have HX1 := hide ((unhide HX1).kept hkw10 (fun h => by have h3 := unhide HK1 _ h; omega))
    have HI := hide (hkw10.own (unhide HI) (fun g h0 h1 => by have h2 := unhide HKI g h0; have h3 := unhide HK1 g h1; omega))
    have HR2 := hide (hkw10.own (unhide HR2) (fun g h0 h1 => by have h2 := unhide HL2 g h0; have h3 := unhide HK1 g h1; omega))
    have HO1 := hide how10
    have hc10 : Below w.heap.size w w10 := hc9c.trans (hkw10.below hc9c.size (fun g hg => by have h3 := unhide HK1 g hg; omega))
    have hz10 := hkw10.2.2.2.1
    clear how10 hkw10 p0 p1
    go_wp2_with fail
    refine (unhide MI w10 _ _ (unhide HI)).mono ?_
    rintro e w10b ⟨rfl, hkw10b⟩
    have HA := hide ((unhide HA).kept hkw10b (fun h => by have h3 := unhide HKI _ h; omega))
    have HR0 := hide (hkw10b.own (unhide HR0) (fun g h0 h1 => by have h2 := unhide HL0 g h0; have h3 := unhide HKI g h1; omega))
    have HO1 := hide ((unhide HO1).kept hkw10b (fun g h0 h1 => by have h2 := unhide HK1 g h0; have h3 := unhide HKI g h1; omega))
    have HX1 := hide ((unhide HX1).kept hkw10b (fun h => by have h3 := unhide HKI _ h; omega))
    have HR2 := hide (hkw10b.own (unhide HR2) (fun g h0 h1 => by have h2 := unhide HL2 g h0; have h3 := unhide HKI g h1; omega))
    have hc10b : Below w.heap.size w w10b := hc10.trans (hkw10b.below hc10.size (fun g hg => by have h3 := unhide HKI g hg; omega))
    have hz10b := hkw10b.2.2.2.1
    clear hkw10b
    have S5 := hide (unhide EF w10b A2 C2 A0 C0 (by obtain ⟨a, c, e, h⟩ := IntsAt.of_own (unhide HR2); simp at e; obtain ⟨rfl, rfl⟩ := e; exact h) (by obtain ⟨a, c, e, h⟩ := IntsAt.of_own (unhide HR0); simp at e; obtain ⟨rfl, rfl⟩ := e; exact h))
    go_wp2_with fail
    refine (unhide S5).mono ?_
    rintro e w11 ⟨rfl, hb11⟩
    have HA := hide ((unhide HA).below hb11)
    have HR0 := hide (own_below (unhide HR0) hb11)
    have HO1 := hide ((unhide HO1).below hb11)
    have HX1 := hide ((unhide HX1).below hb11)
    have HR2 := hide (own_below (unhide HR2) hb11)
    have hc11 : Below w.heap.size w w11 := hc10b.trans (hb11.mono hc10b.size)
    have hz11 := hb11.size
    clear hb11 S5
    go_wp2_with fail
    refine (unhide MF w11 _ _ (unhide HR2)).mono ?_
    rintro e w12 ⟨rfl, how12, hkw12⟩
    have HA := hide ((unhide HA).kept hkw12 (fun h => by have h3 := unhide HL2 _ h; omega))
    have HR0 := hide (hkw12.own (unhide HR0) (fun g h0 h1 => by have h2 := unhide HL0 g h0; have h3 := unhide HL2 g h1; omega))
    have HO1 := hide ((unhide HO1).kept hkw12 (fun g h0 h1 => by have h2 := unhide HK1 g h0; have h3 := unhide HL2 g h1; omega))
    have HX1 := hide ((unhide HX1).kept hkw12 (fun h => by have h3 := unhide HL2 _ h; omega))
    have HR2 := hide how12
    have hc12 : Below w.heap.size w w12 := hc11.trans (hkw12.below hc11.size (fun g hg => by have h3 := unhide HL2 g hg; omega))
    have hz12 := hkw12.2.2.2.1
    clear how12 hkw12
    have S6 := hide (unhide HF w12 A2 C2 (by obtain ⟨a, c, e, h⟩ := IntsAt.of_own (unhide HR2); simp at e; obtain ⟨rfl, rfl⟩ := e; exact h))
    go_wp2_with fail
    refine (unhide S6).mono ?_
    rintro e wx ⟨rfl, hwx⟩
    subst wx
    clear S6
    obtain ⟨p0, p1⟩ := (unhide HA).cells
    go_wp2_with fail
    refine (unhide TO w12 hc12).mono ?_
    rintro e w13 ⟨⟨d3, rfl, ho3⟩, hb13⟩
    have HA := hide ((unhide HA).below hb13)
    have HR0 := hide (own_below (unhide HR0) hb13)
    have HO1 := hide ((unhide HO1).below hb13)
    have HX1 := hide ((unhide HX1).below hb13)
    have HR2 := hide (own_below (unhide HR2) hb13)
    have hc13 : Below w.heap.size w w13 := hc12.trans (hb13.mono hc12.size)
    have hz13 := hb13.size
    have HO3 := hide ho3
    have HK3 := hide ho3.blk
    obtain ⟨a3, n3, c3, b3, m3, k3, rfl, _, _⟩ := ho3.at
    clear ho3 hb13 p0 p1
    go_wp2_with fail
    refine (unhide TI w13 hc13).mono ?_
    rintro e w13b ⟨⟨i3, rfl, hi3⟩, hb13b⟩
    have HA := hide ((unhide HA).below hb13b)
    have HR0 := hide (own_below (unhide HR0) hb13b)
    have HO1 := hide ((unhide HO1).below hb13b)
    have HX1 := hide ((unhide HX1).below hb13b)
    have HR2 := hide (own_below (unhide HR2) hb13b)
    have HO3 := hide ((unhide HO3).below hb13b)
    have hc13b : Below w.heap.size w w13b := hc13.trans (hb13b.mono hc13.size)
    have hz13b := hb13b.size
    obtain ⟨j3, l3, rfl, hj3⟩ := IntsAt.of_own hi3
    have S7 := hide (unhide IM w13b _ j3 l3 (unhide HO3).at hj3)
    clear hi3 hj3 hb13b
    go_wp2_with fail
    refine (unhide S7).mono ?_
    rintro e w14 ⟨⟨r4, rfl, hr4⟩, hb14⟩
    have HA := hide ((unhide HA).below hb14)
    have HR0 := hide (own_below (unhide HR0) hb14)
    have HO1 := hide ((unhide HO1).below hb14)
    have HX1 := hide ((unhide HX1).below hb14)
    have HR2 := hide (own_below (unhide HR2) hb14)
    have HO3 := hide ((unhide HO3).below hb14)
    have hc14 : Below w.heap.size w w14 := hc13b.trans (hb14.mono hc13b.size)
    have hz14 := hb14.size
    have HR4 := hide hr4
    have HL4 := hide hr4.lt
    obtain ⟨A4, C4, rfl, _⟩ := IntsAt.of_own hr4
    clear hr4 hb14 S7
    have S8 := hide (unhide EF w14 A4 C4 A0 C0 (by obtain ⟨a, c, e, h⟩ := IntsAt.of_own (unhide HR4); simp at e; obtain ⟨rfl, rfl⟩ := e; exact h) (by obtain ⟨a, c, e, h⟩ := IntsAt.of_own (unhide HR0); simp at e; obtain ⟨rfl, rfl⟩ := e; exact h))
    go_wp2_with fail
    refine (unhide S8).mono ?_
    rintro e w15 ⟨rfl, hb15⟩
    have HA := hide ((unhide HA).below hb15)
    have HR0 := hide (own_below (unhide HR0) hb15)
    have HO1 := hide ((unhide HO1).below hb15)
    have HX1 := hide ((unhide HX1).below hb15)
    have HR2 := hide (own_below (unhide HR2) hb15)
    have HO3 := hide ((unhide HO3).below hb15)
    have HR4 := hide (own_below (unhide HR4) hb15)
    have hc15 : Below w.heap.size w w15 := hc14.trans (hb15.mono hc14.size)
    have hz15 := hb15.size
    clear hb15 S8
    have S9 := hide (unhide HF w15 A2 C2 (by obtain ⟨a, c, e, h⟩ := IntsAt.of_own (unhide HR2); simp at e; obtain ⟨rfl, rfl⟩ := e; exact h))
    go_wp2_with fail
    refine (unhide S9).mono ?_
    rintro e wx ⟨rfl, hwx⟩
    subst wx
    clear S9
    go_wp2
    go_ret
    exact ⟨rfl, hc15⟩

theorem walk (v : Value) (L : List ByteArray) (Q : List (Int × ByteArray)) (ka : Option Addr) (kn kc : Nat) (K : List Int) (w : World) (hd : DevAt w v w.heap.size L Q) (hS : Sane L Q) (hKA : IntsAt w ka kn w.heap.size K) (_hwf : ∀ x ∈ K, (Lit.int .i64 x).wf = true) (hkm : kn ≤ 9223372036854775807) :
    Calls Try.prog 5 #[v, .slice ka kn kc] w fun e w' => e = .returned (.bool true) ∧ Below w.heap.size w w' := by
  by_cases hkn : (1048576 : Int) < (kn : Int)
  · obtain ⟨a, n, c, a', n', c', rfl, _, _⟩ := hd
    go_enter Try.func5, Try.ntmps5
    go_wp2
    go_ret
    exact ⟨rfl, (Below.refl _ _).alloc (Nat.le_refl _) _⟩
  · exact walk_in v L Q w ka kn kc K (by omega) hKA hd hS

set_option maxRecDepth 100000 in
theorem lifted (os : Os) (started : os.Started) (H : Type) (enc : TypeId × Value → H) :
    ReturnsInHanded {} Try.checked os 5 .any (Rows.fnExactFreeOfSpec.pre6 enc Try.prog Try.f5 Rows.fnExactFreeOfRow.domain false) (Rows.fnExactFreeOfSpec.post enc Try.prog Try.f5 false true false false) := by
  refine returnsInHanded_of_change (C := Try.checked) own started (by kernel_rfl) Try.func5
    (ChangeSpec.witness6 (enc := enc) (C := Try.checked) false ⟨#[], #[.agg #[.slice none 0 0, .slice none 0 0], .slice none 0 0], []⟩ 8 (by kernel_rfl) (by kernel_rfl) (by kernel_rfl) (by kernel_rfl)) ?_
  intro W base args ds gs before hval0 hW _ _
  have hval : ∀ (j : Nat) t v, Try.f5.params[j]? = some t → args[j]? = some v → Value.okWide Try.prog W .any base t v := hval0
  have hW' := hW
  obtain ⟨p, q, hA0, hV, rfl, hfz, hnd⟩ := hW
  have hA : DataW.TrodAll enc Try.prog W 0 (fun _ => true) true Try.f5.params.toList args.toList ds p := hA0
  rw [Try.params5] at hA hval
  obtain ⟨v0, vs0, d0, ds0, p0, q0, hargs, rfl, rfl, h0, r0⟩ := trodAll_cons hA
  obtain ⟨v1, vs1, d1, ds1, p1, q1, rfl, rfl, rfl, h1, r1⟩ := trodAll_cons r0
  obtain ⟨rfl, rfl, rfl⟩ := trodAll_nil r1
  obtain rfl : args = #[v0, v1] := by cases args; simp_all
  obtain ⟨rfl, rfl⟩ := trodVars_none hV
  have k0 := h0
  have lt0 : ∀ x ∈ p0, x.block < W.heap.size := by obtain ⟨m, hm⟩ := k0; exact DataW.trod_lt m _ _ _ hm
  obtain ⟨L0, Q0, hd0, hn0⟩ := dev_open (fun _ => rfl) (hval 0 43 v0 rfl rfl) h0
  obtain ⟨a1, len1, cap1, rfl⟩ := okWide_slice Try.underlying44 (hval 1 44 v1 rfl rfl)
  have k1 := h1
  have lt1 : ∀ x ∈ p1, x.block < W.heap.size := by obtain ⟨m, hm⟩ := k1; exact DataW.trod_lt m _ _ _ hm
  obtain ⟨z1, hz1, wz1, nm1⟩ : ∃ K, IntsAt W a1 len1 W.heap.size K ∧ (∀ x ∈ K, (Lit.int .i64 x).wf = true) ∧ len1 ≤ 9223372036854775807 := by
    obtain ⟨fuel, hf⟩ := h1
    obtain ⟨a, n, c, K, hcs, hK, hw, hn⟩ := ints_open (fun _ => rfl) hf
    simp [Value.cells] at hcs
    obtain ⟨rfl, rfl, rfl⟩ := hcs
    exact ⟨K, hK, hw, hn⟩
  clear hA0 hval0
  refine (walk v0 L0 Q0 a1 len1 cap1 z1 W hd0 hn0 hz1 wz1 nm1).mono fun e W' ⟨he, bel⟩ => ?_
  subst he
  exact ⟨_, rfl, _, _, _, [], _, [], hW', trodAll_mk1 (shut_bool Try.underlying4 _), (trodAll_cons_mk (Below.trod laidOut (by kernel_rfl) (of_decide_eq_true (by kernel_rfl)) k0 bel lt0) (trodAll_cons_mk (Below.trod laidOut (by kernel_rfl) (of_decide_eq_true (by kernel_rfl)) k1 bel lt1) trodAll_mk0)), rfl, bel.frame _, fun h => by cases h⟩

theorem over : Rows.fnExactFreeOfRow.holds Try.pinned (OpenSpec.ofChange Rows.fnExactFreeOfSpec) :=
  OpenClaim.holds_of_wide 5 Try.f5 rfl rfl rfl rfl rfl rfl rfl ⟨rfl, rfl, rfl, rfl, rfl⟩ rfl rfl rfl rfl rfl (by kernel_rfl) Try.func5 (by kernel_rfl)
    (of_decide_eq_true (by kernel_rfl)) (by unfold Func.isWrapper; first | (rw [if_pos (by decide +kernel)]; kernel_rfl) | (rw [if_neg (by decide +kernel)]; exact ⟨rfl, rfl⟩))
    (fun os started H enc _ => lifted os started H enc)

end Go.Proofs.Ytdmcnojhjmadjaa.fnExactFreeOf
namespace Go.Proofs.Ytdmcnojhjmadjaa
theorem fnExactFreeOf_holds : Rows.FnExactFreeOfSaid := fnExactFreeOf.over
#print axioms fnExactFreeOf_holds
end Go.Proofs.Ytdmcnojhjmadjaa
