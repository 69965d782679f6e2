/-
  The contract of spec.DrawRightDevice: some right device of few sectors and puts, new.
-/
import Derived.Test.YtfbfafpfhgjdfaaDrawKept
import Derived.Test.YtfbfafpfhgjdfaaDevNew
namespace Go.Proofs.Ytfbfafpfhgjdfaa
open Go.RowKit

theorem enterBelow (vs : Array Value) (w : World) : (callFunc 46 vs).run Try.prog w = .ok (.enter 46 vs) w := by kernel_rfl
theorem enterText (vs : Array Value) (w : World) : (callFunc 47 vs).run Try.prog w = .ok (.enter 47 vs) w := by kernel_rfl

theorem Code.mono {a : Option Addr} {len B C : Nat} {w : World} (h : Code a len B w) (hC : B ≤ C) : Code a len C w := by
  intro j hj
  obtain ⟨b, off, z, e, hb, r⟩ := h j hj
  exact ⟨b, off, z, e, by omega, r⟩

theorem putsV_put (Q : List (Int × ByteArray)) (x : Int) (t : ByteArray) : putsV (Q ++ [(x, t)]) = putsV Q ++ [.int .i64 x, .string t] := by
  unfold putsV; rw [List.flatMap_append]; rfl

/-- The puts of a drawn device. -/
def SmallQ (n : Nat) (Q : List (Int × ByteArray)) : Prop := ∀ q ∈ Q, 0 ≤ q.1 ∧ q.1 < (n : Int) ∧ q.2.size ≤ 64

theorem right_of_small {L : List ByteArray} {Q : List (Int × ByteArray)} (h1 : 1 ≤ L.length) (h2 : L.length ≤ 8) (h3 : Q.length ≤ 7) (hL : ∀ s ∈ L, s.size ≤ 64) (hQ : SmallQ L.length Q) : devOk L Q = true := by
  unfold devOk
  rw [decide_eq_true (by omega), decide_eq_true (by omega), decide_eq_true (by omega)]
  simp only [Bool.true_and, Bool.and_eq_true, List.all_eq_true]
  refine ⟨fun s hs => ?_, fun q hq => ?_⟩
  · have := hL s hs
    simp [secOk]; omega
  · have := hQ q hq
    simp [putOk2, putOk]; omega

set_option maxRecDepth 100000 in
set_option maxHeartbeats 2000000 in
theorem drawDev_any (a : Option Addr) (len cap : Nat) (hl : len ≤ 1048576) (w : World) (hd : Code a len w.heap.size w) :
    Calls Try.prog 15 #[.slice a len cap] w fun e w' => (∃ d L Q, e = .returned d ∧ DevOwn w' w.heap.size d L Q ∧ devOk L Q = true ∧ Q.length ≤ 7) ∧ Below w.heap.size w w' := by
  obtain ⟨i1, hj1, hy0, hy1, hy2⟩ := info_parts infoPut
  have HD := hide hd
  clear hd
  go_enter Try.func15, Try.ntmps15
  go_wp2_with fail
  obtain ⟨W1, hW1⟩ : ∃ W, W = w.alloc (Obj.cells #[Value.slice none 0 0, Value.slice none 0 0] 27) := ⟨_, rfl⟩
  rw [← hW1]
  have hb1 : Below w.heap.size w W1 := by rw [hW1]; exact below_new _ _
  have HR1 : Hid (Box W1 w.heap.size (Value.slice none 0 0) (Value.slice none 0 0)) := by show Box _ _ _ _; rw [hW1]; exact Box.new _ _ _
  have hs1 : W1.heap.size = w.heap.size + 1 := by rw [hW1]; simp
  clear hW1
  refine (new_any a len cap hl W1 (((unhide HD).below hb1 (Nat.le_refl _)).mono hb1.size)).mono ?_
  rintro e w2 ⟨rfl, hcu2, hb2⟩
  obtain ⟨g, hg⟩ : ∃ g, g = W1.heap.size := ⟨_, rfl⟩
  rw [← hg] at hcu2 ⊢
  have hgw : w.heap.size + 1 ≤ g := by omega
  have hgw2 : g ≤ w.heap.size + 1 := by omega
  have hlt2 := hcu2.lt
  have HR2 := hide ((unhide HR1).below hb2)
  have hc2 : Below w.heap.size w w2 := hb1.trans (hb2.mono hb1.size)
  have HD2 := hide ((unhide HD).below hc2 (Nat.le_refl _))
  have HB8 := hide (below_any a len cap g w.heap.size 8 hl (by omega) (by omega) w2 hcu2 (unhide HD2))
  clear hg hb1 hb2 hcu2 hs1 HR1 HD
  go_wp2_with fail
  refine (unhide HB8).mono ?_
  rintro e w3 ⟨x, rfl, hx0, hx1, hcu3, hgr3⟩
  have hk3 := grown_kept hgr3
  have HR3 := hide ((unhide HR2).kept hk3 (by omega))
  have hc3 : Below w.heap.size w w3 := hc2.trans (hk3.below hc2.size (fun k hk => by omega))
  have HD3 := hide ((unhide HD2).grown (by omega) hgr3)
  have HCU3 := hide hcu3
  have hsz3 := hgr3.size
  have hx8 : 1 + x ≤ 8 := by omega
  have NW := hide (specNew_any (1 + x) w3)
  have hnl : newL (1 + x) = List.replicate (1 + x).toNat ⟨#[]⟩ := if_pos (by omega)
  rw [hnl] at NW
  obtain ⟨n, hn⟩ : ∃ n : Nat, n = (1 + x).toNat := ⟨_, rfl⟩
  rw [← hn] at NW
  have hn1 : 1 ≤ n := by omega
  have hn8 : n ≤ 8 := by omega
  clear hn hnl hk3 hgr3 hcu3 HB8 HR2 HD2 hc2
  go_wp2_with fail
  refine (unhide NW).mono ?_
  rintro e w4 ⟨⟨d, rfl, ho4⟩, hb4⟩
  have HR4 := hide ((unhide HR3).below hb4)
  have hc4 : Below w.heap.size w w4 := hc3.trans (hb4.mono hc3.size)
  have HD4 := hide ((unhide HD3).below hb4 hc3.size)
  have HCU4 := hide ((unhide HCU3).kept (S := fun _ => False) (Kept.of_below hb4) (by simp))
  have hsz4 := hb4.size
  have hblk := ho4.blk
  obtain ⟨v0, v1, rfl, ho40, ho41, hne01⟩ := ho4
  rw [List.length_replicate] at ho40
  obtain ⟨A0, C0, rfl, _⟩ := StrsAt.of_own ho40
  obtain ⟨A1, C1, rfl, _⟩ := PutsAt.of_own ho41
  have hlo0 : ∀ k, (Value.slice A0 n C0).ownBlock = some k → w3.heap.size ≤ k ∧ k < w4.heap.size := fun k hk => hblk k ⟨_, _, rfl, .inl hk⟩
  have hlo1 : ∀ k, (Value.slice A1 ([] : List (Int × ByteArray)).length C1).ownBlock = some k → w3.heap.size ≤ k ∧ k < w4.heap.size := fun k hk => hblk k ⟨_, _, rfl, .inr hk⟩
  have HLO0 := hide hlo0
  have HLO1 := hide hlo1
  have HO0 := hide ho40
  have HO1 := hide ho41
  have HNE := hide hne01
  clear hne01 hblk hlo0 hlo1 ho40 ho41 hb4 HR3 hc3 HD3 HCU3 NW
  go_wp2_with fail
  obtain ⟨W5, hW5⟩ : ∃ W, W = w4.alloc (Obj.cells #[Value.slice A0 n C0, Value.slice A1 0 C1] 27) := ⟨_, rfl⟩
  rw [← hW5]
  have hb5 : Below w4.heap.size w4 W5 := by rw [hW5]; exact below_new _ _
  have HY5 : Hid (Box W5 w4.heap.size (Value.slice A0 n C0) (Value.slice A1 0 C1)) := by show Box _ _ _ _; rw [hW5]; exact Box.new _ _ _
  have HR5 := hide ((unhide HR4).below hb5)
  have HD5 := hide ((unhide HD4).below hb5 (by omega))
  have HCU5 := hide ((unhide HCU4).kept (S := fun _ => False) (Kept.of_below hb5) (by simp))
  have HO5 := hide (own_below (unhide HO0) hb5)
  have HP5 := hide (own_below (unhide HO1) hb5)
  have hc5 : Below w.heap.size w W5 := hc4.trans (hb5.mono hc4.size)
  have hs5 : W5.heap.size = w4.heap.size + 1 := by rw [hW5]; simp
  obtain ⟨y, hy⟩ : ∃ y, y = w4.heap.size := ⟨_, rfl⟩
  rw [← hy] at HY5 ⊢
  have hyg : g < y := by have := (unhide HCU4).lt; omega
  have hyl : y < W5.heap.size := by omega
  have hL0 : ∀ s ∈ List.replicate n (⟨#[]⟩ : ByteArray), s.size ≤ 64 := fun s hs => by rw [List.eq_of_mem_replicate hs]; exact Nat.zero_le _
  have HL0 := hide hL0
  have HLO0 : Hid (∀ k, (Value.slice A0 n C0).ownBlock = some k → g < k ∧ k < y) := fun k hk => by have h1 := unhide HLO0 k hk; exact ⟨by omega, by omega⟩
  have HLO1 : Hid (∀ k, (Value.slice A1 0 C1).ownBlock = some k → g < k ∧ k < y) := fun k hk => by have h1 := unhide HLO1 k hk; exact ⟨by omega, by omega⟩
  clear hW5 hb5 HR4 HD4 HCU4 HO0 HO1 hc4 hL0 hy
  have hgl : (0 : Int) < 6 := by omega
  go_loopw [6] (fun a6 wr => ∃ (i : Nat) (L : List ByteArray), a6 = .int .i64 i ∧ i ≤ n ∧ L.length = n ∧ (∀ s ∈ L, s.size ≤ 64) ∧ wr.ownsRow w3.heap.size 9 1 (Value.slice A0 n C0) n (strsV L) ∧ Cur a len cap g wr ∧ Code a len w.heap.size wr ∧ Box wr y (Value.slice A0 n C0) (Value.slice A1 0 C1) ∧ Kept (fun k => k = g ∨ (Value.slice A0 n C0).ownBlock = some k) W5 wr) (fun a6 _ => n - (intOf a6).toNat)
  case atStart => exact ⟨0, _, rfl, Nat.zero_le _, List.length_replicate, unhide HL0, unhide HO5, unhide HCU5, unhide HD5, unhide HY5, Kept.refl _ _⟩
  case round =>
    obtain ⟨i, L, rfl, hi, hLn, hLs, hown, hcu, hco, hbx, hkp⟩ := hrel
    have hkz := hkp.2.2.2.1
    by_cases hlt : i < n
    · obtain ⟨y0, y1⟩ := hbx.cells
      have hxl := hbx.lt
      have HB6 := hide (below_any a len cap g w.heap.size 6 hl (by omega) (by omega) wr.drew hcu hco)
      have HCO := hide hco
      have HOW := hide hown
      have HBX := hide hbx
      have HKP := hide hkp
      have HLs := hide hLs
      have HLn := hide hLn
      have hi0 : (0 : Int) ≤ (i : Int) := by omega
      have hi1 : (i : Int) < (n : Int) := by omega
      have hng : ¬ y = g := by omega
      have TX := hide (fun (m : Nat) (hm : m ≤ 5000) (w2 : World) (hg2 : g < w2.heap.size) (h1 : Cur a len cap g w2) (h2 : Code a len w.heap.size w2) => text_kept a len cap g w.heap.size m hl (by omega) hm w2 hg2 h1 h2)
      clear hown hcu hco hbx hkp hLs hLn y1
      go_wp2_with fail
      go_region_held3 (fun u => u.cell? ⟨y, 0, none⟩ = some (Value.slice A0 n C0))
        (first | go_keep | exact s0 | exact t0)
        (first
          | (go_at_call 46; refine (unhide HB6).mono ?_; rintro e w6 ⟨x6, rfl, hx60, hx61, hcu6, hgr6⟩; have hk6 : Kept (fun k => k = g) wr w6 := (Kept.refl _ wr).drew.trans (grown_kept hgr6); obtain ⟨m6, rfl⟩ := Int.eq_ofNat_of_zero_le hx60; have HBX6 := hide ((unhide HBX).kept hk6 hng); have s0 := (unhide HBX6).cells.1; have HT6 := hide (unhide TX m6 (by omega) w6 hcu6.lt hcu6 ((unhide HCO).grown (w := wr.drew) (by omega) hgr6)); have HC6 := hide ((unhide HCO).grown (w := wr.drew) (by omega) hgr6); have hm6 : m6 ≤ 64 := (by omega); clear hcu6 hgr6)
          | (go_at_call 47; refine (unhide HT6).mono ?_; rintro e w7 ⟨⟨s7, rfl, hs7⟩, hcu7, hk7⟩; have hk67 := hk6.trans hk7; have HBX7 := hide ((unhide HBX6).kept hk7 hng); have t0 := (unhide HBX7).cells.1; have hown7 := hk67.own (unhide HOW) (fun k hk e => by have := unhide HLO0 k hk; omega); have HCU7 := hide hcu7; have hbs : s7.size ≤ 64 := (by omega); obtain ⟨gr, cpr, hVr, _, hgrl⟩ := hown7.form (by omega); simp at hVr; obtain ⟨rfl, rfl⟩ := hVr; have hce7 := hown7.cellAt i (by omega); have hlL : i < L.length := (by have := unhide HLn; omega); have hce8 : (strsV L)[i]? = some (.string L[i]) := (by simp [strsV, hlL]); rw [hce8] at hce7; have hfz7 := hown7.frozenAt i; have hgy : gr ≠ y := (fun e => by have := unhide HLO0 gr rfl; omega); have hgy2 : y ≠ gr := Ne.symm hgy; clear hcu7 hce8))
      have hst := (hown7.stored i (.string s7)).1
      rw [strsV_set] at hst
      have HST := hide hst
      have hkA : Kept (fun k => k = gr) w7 (w7.setCell ⟨gr, i, none⟩ (.string s7)) := Kept.set _ gr i _ rfl
      have HBXA := hide ((unhide HBX7).kept hkA hgy2)
      have HCUA := hide ((unhide HCU7).kept hkA (fun e => by have := unhide HLO0 gr rfl; omega))
      have HCOA : Hid (Code a len w.heap.size (w7.setCell ⟨gr, i, none⟩ (.string s7))) := ((unhide HC6).below (hk7.below (B := w.heap.size) (by have := (unhide HBX6).lt; omega) (fun k hk => by omega)) (Nat.le_refl _)).below (hkA.below (B := w.heap.size) (by have := (unhide HBX7).lt; omega) (fun k hk => by have := unhide HLO0 gr rfl; omega)) (Nat.le_refl _)
      have HKPA := hide (((unhide HKP).trans (hk67.weak (fun k hk => .inl hk))).trans (hkA.weak (T := fun k => k = g ∨ (Value.slice (some ⟨gr, 0, none⟩) n C0).ownBlock = some k) (fun k hk => .inr (by rw [hk]; rfl))))
      have HLsA : Hid (∀ s ∈ L.set i s7, s.size ≤ 64) := fun s hs => by
        rcases List.mem_or_eq_of_mem_set hs with h | h
        · exact unhide HLs s h
        · rw [h]; exact hbs
      clear hst hown7 hce7 hfz7 hk7 hk67 hk6 hkA s0 t0 HT6 HC6 HBX6 HBX7 HCU7 HOW HBX HKP HCO
      go_wp2
      go_roundw
      case rel => exact ⟨i + 1, L.set i s7, by go_num, by omega, by rw [List.length_set]; exact unhide HLn, unhide HLsA, unhide HST, unhide HCUA, unhide HCOA, unhide HBXA, unhide HKPA⟩
      case measure => simp [intOf]; omega
    · obtain rfl : i = n := by omega
      obtain ⟨w5, rfl⟩ : ∃ x, x = wr := ⟨wr, rfl⟩
      obtain ⟨gr, C9, hV0, _, _⟩ := hown.form (by omega)
      simp at hV0
      obtain ⟨rfl, rfl⟩ := hV0
      have hneB : ∀ k, (Value.slice A1 0 C1).ownBlock = some k → k ≠ gr := fun k hk e => by
        rcases unhide HNE with h | h
        · exact h (by rw [e] at hk; exact hk.symm)
        · cases h
      have hP := hkp.own (unhide HP5) (fun k hk e => by
        rcases e with e | e
        · have := unhide HLO1 k hk; omega
        · simp [Value.ownBlock] at e; exact hneB k hk e.symm)
      have HPP := hide hP
      have HR6 := hide ((unhide HR5).kept hkp (fun e => by
        rcases e with e | e
        · omega
        · have := unhide HLO0 _ e; omega))
      have HOW := hide hown
      have HCU := hide hcu
      have HCO := hide hco
      have HCO5 := hide hco
      have HBX := hide hbx
      have hgr := unhide HLO0 gr rfl
      have HC5 : Hid (Below w.heap.size w w5) := hc5.trans (hkp.below hc5.size (fun k hk => by
        rcases hk with hk | hk
        · omega
        · have := unhide HLO0 _ hk; omega))
      have HLs := hide hLs
      have HLn := hide hLn
      have hxl := hbx.lt
      have hP1 : ∀ k, (Value.slice A1 0 C1).ownBlock = some k → g < k ∧ k ≠ y ∧ k ≠ gr := fun k hk => by
        have h1 := unhide HLO1 k hk
        exact ⟨h1.1, by omega, hneB k hk⟩
      have HP1 := hide hP1
      have TX := hide (fun (m : Nat) (hm : m ≤ 5000) (w2 : World) (hg2 : g < w2.heap.size) (h1 : Cur a len cap g w2) (h2 : Code a len w.heap.size w2) => text_kept a len cap g w.heap.size m hl (by omega) hm w2 hg2 h1 h2)
      have BX := hide (fun (m : Int) (hm : 0 < m) (w2 : World) (h1 : Cur a len cap g w2) (h2 : Code a len w.heap.size w2) => below_any a len cap g w.heap.size m hl (by omega) hm w2 h1 h2)
      clear hown hcu hco hbx hkp hLs hLn hP hP1 hneB HY5 HR5 HD5 HCU5 HO5 HP5 hc5 hkz hlt
      obtain ⟨y0, y1⟩ := (unhide HBX).cells
      go_wp2_with fail
      clear y0 y1
      go_loopw [7] (fun a7 wr => ∃ (j : Nat) (Q : List (Int × ByteArray)) (B1 : Option Addr) (D1 : Nat), a7 = .int .i64 j ∧ j ≤ 7 ∧ Q.length = j ∧ SmallQ i Q ∧ Box wr y (Value.slice (some ⟨gr, 0, none⟩) i C0) (.slice B1 j D1) ∧ wr.ownsRow w3.heap.size 66 2 (.slice B1 j D1) j (putsV Q) ∧ wr.ownsRow w3.heap.size 9 1 (Value.slice (some ⟨gr, 0, none⟩) i C0) i (strsV L) ∧ (∀ k, (Value.slice B1 j D1).ownBlock = some k → g < k ∧ k ≠ y ∧ k ≠ gr) ∧ Cur a len cap g wr ∧ Code a len w.heap.size wr ∧ Below (w.heap.size + 1) w5 wr ∧ w5.heap.size ≤ wr.heap.size) (fun a7 _ => 7 - (intOf a7).toNat)
      case atStart => exact ⟨0, [], A1, C1, rfl, by omega, rfl, by intro q hq; simp at hq, unhide HBX, unhide HPP, unhide HOW, unhide HP1, unhide HCU, unhide HCO, Below.refl _ _, Nat.le_refl _⟩
      case round =>
        obtain ⟨j, Q, B1, D1, rfl, hj, hQj, hQs, hbx, hpo, how, hfar, hcu, hco, hbw, hsz⟩ := hrel
        have HB7 := hide (unhide BX 7 (by omega) wr hcu hco)
        have HBX := hide hbx
        have HPO := hide hpo
        have HOW := hide how
        have HFAR := hide hfar
        have HCO := hide hco
        have HQs := hide hQs
        have HQj := hide hQj
        clear hbx hpo how hfar hcu hco hQs hQj
        go_wp2_with fail
        refine (unhide HB7).mono ?_
        rintro e w8 ⟨x8, rfl, hx80, hx81, hcu8, hgr8⟩
        have hk8 := grown_kept hgr8
        have HCU8 := hide hcu8
        have HCO8 := hide ((unhide HCO).grown (by omega) hgr8)
        have HBX8 := hide ((unhide HBX).kept hk8 (by omega))
        have HPO8 := hide (hk8.own (unhide HPO) (fun k hk e => by have := unhide HFAR k hk; omega))
        have HOW8 := hide (hk8.own (unhide HOW) (fun k hk e => by simp [Value.ownBlock] at hk; omega))
        have hb8 : Below (w.heap.size + 1) w5 w8 := hbw.trans (hk8.below (by omega) (fun k hk => by omega))
        have hsz8 : w5.heap.size ≤ w8.heap.size := by have := hgr8.size; omega
        clear hcu8 hgr8 hk8 HB7 HBX HPO HOW HCO hbw hsz
        by_cases hlt : (j : Int) < x8
        · obtain ⟨y0, y1⟩ := (unhide HBX8).cells
          have hin : (0 : Int) < (i : Int) := by omega
          have HBn := hide (unhide BX (i : Int) hin w8.drew (unhide HCU8) (unhide HCO8))
          have hjm : j + 1 ≤ maxLen := by unfold maxLen; omega
          have hbl := (unhide HBX8).lt
          have hyg2 : ¬ y = g := by omega
          have hrowg : ¬ gr = g := by omega
          go_wp2_with fail
          go_region_law
            (first
              | (refine step_call (by rfl) 46 _ _ (by rfl) #[.pointer (some ⟨g, 0, none⟩), .int .i64 (i : Int)] (by first | rfl | (simp [Act.eval, Act.put]; done)) enterBelow _ (unhide HBn) ?_; rintro e wa ⟨xa, rfl, hxa0, hxa1, hcua, hgra⟩; refine ⟨_, rfl, ?_⟩; have hka : Kept (fun k => k = g) w8 wa := (Kept.refl _ w8).drew.trans (grown_kept hgra); have HBXa := hide ((unhide HBX8).kept hka hyg2); have sa0 := (unhide HBXa).cells.1; have sa1 := (unhide HBXa).cells.2; have HCOa := hide ((unhide HCO8).grown (w := w8.drew) (by omega) hgra); have HB6 := hide (unhide BX 6 (by omega) wa hcua (unhide HCOa)); clear hcua hgra)
              | (refine step_call (by rfl) 46 _ _ (by rfl) #[.pointer (some ⟨g, 0, none⟩), .int .i64 6] (by first | rfl | (simp [Act.eval]; done)) enterBelow _ (unhide HB6) ?_; rintro e wb ⟨xb, rfl, hxb0, hxb1, hcub, hgrb⟩; refine ⟨_, rfl, ?_⟩; obtain ⟨mb, rfl⟩ := Int.eq_ofNat_of_zero_le hxb0; have hkb := grown_kept hgrb; have HBXb := hide ((unhide HBXa).kept hkb hyg2); have sb0 := (unhide HBXb).cells.1; have sb1 := (unhide HBXb).cells.2; have HCOb := hide ((unhide HCOa).grown (by omega) hgrb); have HTb := hide (unhide TX mb (by omega) wb hcub.lt hcub (unhide HCOb)); clear hcub hgrb)
              | (refine step_call (by rfl) 47 _ _ (by rfl) #[.pointer (some ⟨g, 0, none⟩), .int .i64 (mb : Int)] (by first | rfl | (simp [Act.eval]; done)) enterText _ (unhide HTb) ?_; rintro e wc ⟨⟨sc, rfl, hsc⟩, hcuc, hkc⟩; refine ⟨_, rfl, ?_⟩; have hkabc := (hka.trans hkb).trans hkc; have HBXc := hide ((unhide HBXb).kept hkc hyg2); have sc0 := (unhide HBXc).cells.1; have sc1 := (unhide HBXc).cells.2; have scl := (unhide HBXc).lt; have se1 := ((below_new wc (Obj.cells #[Value.int .i64 xa, Value.string sc] 66)).cell (p := ⟨y, 1, none⟩) scl).trans sc1; have HCUc := hide hcuc; have hownc := hkabc.own (unhide HPO8) (fun k hk e => by have := unhide HFAR k hk; omega); have hszc : w8.heap.size ≤ wc.heap.size := hkabc.2.2.2.1; clear hcuc)
              | (refine step_append_lies _ (by rfl) _ _ _ (by rfl) w3.heap.size 66 i1 _ 2 24 Try.underlying25 hj1 hy0 hy1 hy2 rfl (by omega) (.slice B1 j D1) j (putsV Q) (by rfl) (by first | exact hownc.alloc _ | exact (hownc.alloc _).drew) ⟨wc.heap.size, 0, none⟩ 1 1 [.int .i64 xa, .string sc] (by rfl) (by rfl) (World.news_of_block (cs := #[.int .i64 xa, .string sc]) (t := 66) (fr := (0, 0)) (heap_alloc_new wc _)) (by simp [Value.oneCell']) (by omega) hjm (by omega) (by simp; omega) (wc.heap.size + 1) (by simp) ?_; intro gn capn wd hownd hgrd hatd hltd; have HBXd := hide (grown_box ((unhide HBXc).below (below_new wc (Obj.cells #[Value.int .i64 xa, Value.string sc] 66))) hgrd (fun e => by have := unhide HFAR _ e; omega)); have t0 := (unhide HBXd).cells.2; have tf := (unhide HBXd).froz 1))
          all_goals
            have hgn : g < gn ∧ gn ≠ y ∧ gn ≠ gr := by
              rcases hatd with h | h
              · exact unhide HFAR gn h
              · have := (unhide HBXc).lt
                refine ⟨by omega, by omega, by omega⟩
            have hrow : ∀ k, (Value.slice B1 j D1).ownBlock = some k → g < k ∧ k ≠ y ∧ k ≠ gr := unhide HFAR
            have hkd := Kept.of_grown hgrd
            have hkA : Kept (fun k => k = y) wd (wd.setCell ⟨y, 1, none⟩ (.slice (some ⟨gn, 0, none⟩) (j + 1) capn)) := Kept.set _ y 1 _ rfl
            have HBXA := hide ((unhide HBXd).one (.slice (some ⟨gn, 0, none⟩) (j + 1) capn))
            rw [← putsV_put] at hownd
            have HPA := hide (hkA.own hownd (fun k hk e => by simp [Value.ownBlock] at hk; omega))
            have how1 := hkabc.own (unhide HOW8) (fun k hk e => by simp [Value.ownBlock] at hk; omega)
            have how2 := hkd.own (own_below how1 (below_new wc (Obj.cells #[Value.int .i64 xa, Value.string sc] 66))) (fun k hk e => by simp only [Value.ownBlock] at hk; have h1 := hrow k e; have h2 := Option.some.inj hk; omega)
            have HOA := hide (hkA.own how2 (fun k hk e => by simp [Value.ownBlock] at hk; omega))
            have hcu1 := ((unhide HCUc).alloc (Obj.cells #[Value.int .i64 xa, Value.string sc] 66)).kept hkd (fun e => by have := hrow g e; omega)
            have HCUA := hide (hcu1.kept hkA (by omega))
            have hbc : Below (w.heap.size + 1) w5 wc := hb8.trans (hkabc.below (by omega) (fun k hk => by omega))
            have hbd : Below (w.heap.size + 1) w5 wd := (hbc.alloc (by omega) _).grown hgrd (by simp; omega) (fun k hk => by have := hrow k hk; omega)
            have HBA : Hid (Below (w.heap.size + 1) w5 (wd.setCell ⟨y, 1, none⟩ (.slice (some ⟨gn, 0, none⟩) (j + 1) capn))) := hbd.setCell (p := ⟨y, 1, none⟩) (by show w.heap.size + 1 ≤ y; omega) _
            have HCOA : Hid (Code a len w.heap.size (wd.setCell ⟨y, 1, none⟩ (.slice (some ⟨gn, 0, none⟩) (j + 1) capn))) := (unhide HCO5).below ((unhide HBA).mono (by omega)) (Nat.le_refl _)
            have HSA : Hid (w5.heap.size ≤ (wd.setCell ⟨y, 1, none⟩ (.slice (some ⟨gn, 0, none⟩) (j + 1) capn)).heap.size) := (unhide HBA).size
            have HQA : Hid (SmallQ i (Q ++ [(xa, sc)])) := fun q hq => by
              rcases List.mem_append.1 hq with h | h
              · exact unhide HQs q h
              · simp at h; rw [h]; exact ⟨hxa0, hxa1, by show sc.size ≤ 64; omega⟩
            have HFA : Hid (∀ k, (Value.slice (some ⟨gn, 0, none⟩) (j + 1) capn).ownBlock = some k → g < k ∧ k ≠ y ∧ k ≠ gr) := fun k hk => by simp [Value.ownBlock] at hk; rw [← hk]; exact hgn
            clear hownd hgrd hatd hkd hkA how1 how2 hcu1 hbc hbd hownc hkabc hka hkb hkc sa0 sa1 sb0 sb1 sc0 sc1 se1 t0 tf y0 y1 hrow HBXa HBXb HBXc HBXd HTb HB6 HBn HCOa HCOb HCUc HOW8 HPO8 HBX8 HCU8 HCO8
            go_wp2
            go_roundw
            case rel => exact ⟨j + 1, Q ++ [(xa, sc)], some ⟨gn, 0, none⟩, capn, by go_num, by omega, by simp; exact unhide HQj, unhide HQA, unhide HBXA, unhide HPA, unhide HOA, unhide HFA, unhide HCUA, unhide HCOA, unhide HBA, unhide HSA⟩
            case measure => simp [intOf]; omega
        · obtain ⟨y0, y1⟩ := (unhide HBX8).cells
          have HR8 := hide ((unhide HR6).below' hb8 (by omega))
          obtain ⟨q0, q1⟩ := (unhide HR8).cells
          have f0 := (unhide HR8).froz 0
          have f1 := (unhide HR8).froz 1
          go_wp2
          (try simp only [Exit.inBlock, Exit.then])
          refine bodyPost_ret (results_cell_row Try.results15 _ _ w.heap.size _ _ _ _ rfl ((unhide HR8).two _ _) Try.underlying27 rfl (by kernel_rfl)) rfl ?_
          have hne0 : (Value.slice (some ⟨gr, 0, none⟩) i C0).ownBlock ≠ some w.heap.size := by simp [Value.ownBlock]; omega
          have hne1 : (Value.slice B1 j D1).ownBlock ≠ some w.heap.size := fun e => by have := unhide HFAR _ e; omega
          have hLl := unhide HLn
          have hQl := unhide HQj
          refine ⟨⟨_, L, Q, rfl, ⟨_, _, rfl, ?_, ?_, ?_⟩, right_of_small (by omega) (by omega) (by omega) (unhide HLs) (by rw [hLl]; exact unhide HQs), by omega⟩, (((unhide HC5).trans (hb8.mono (by omega))).setCell (p := ⟨w.heap.size, 0, none⟩) (by simp) _).setCell (p := ⟨w.heap.size, 1, none⟩) (by simp) _⟩
          · rw [hLl]
            exact own_lower (by omega) (ownsRow_setCell_other (a := ⟨w.heap.size, 1, none⟩) (ownsRow_setCell_other (a := ⟨w.heap.size, 0, none⟩) (unhide HOW8) hne0 _) hne0 _)
          · rw [hQl]
            exact own_lower (by omega) (ownsRow_setCell_other (a := ⟨w.heap.size, 1, none⟩) (ownsRow_setCell_other (a := ⟨w.heap.size, 0, none⟩) (unhide HPO8) hne1 _) hne1 _)
          · refine .inl fun e => ?_
            have := unhide HFAR gr (by rw [← e]; rfl)
            omega
end Go.Proofs.Ytfbfafpfhgjdfaa
