/-
  The contract of impl.firstGroup: where the first group of the rule ends.
-/
import Derived.Test.YteaidpeifaeckaaTrGrp
import Derived.Test.YteaidpeifaeckaaTrCut
import Derived.Test.YteaidpeifaeckaaPgEnds
namespace Go.Proofs.Yteaidpeifaeckaa
namespace Tr
open Go.RowKit
open Go.Proofs.Yteaidpeifaeckaa.Pg

set_option maxRecDepth 100000 in
set_option maxHeartbeats 2000000 in
theorem firstGroup_one (a : Option Addr) (len cap B : Nat) (Q : List It) (hlen : len ≤ 1048576) (hpos : 0 < len) (hsm : ∀ x ∈ Q, x.key.size ≤ 1048576 ∧ x.val.size ≤ 1048576) (w : World) (hB : B ≤ w.heap.size) (hs : ItemsAt w a len B Q) :
    Calls Try.prog 23 #[.int .i64 1, .slice a len cap] w fun e w' => (∃ f : Nat, e = .returned (.int .i64 (f : Int)) ∧ 0 < f ∧ f ≤ len ∧ cutG (1 : Int) Q = Q.take f :: cutG (1 : Int) (Q.drop f)) ∧ Below w.heap.size w w' := by
  obtain ⟨hL, hc⟩ := hs
  have HC := hide hc
  have HL := hide hL
  have HSM := hide hsm
  clear hc hL hsm
  go_enter Try.func23, Try.ntmps23
  go_wp2_with fail
  go_loopw [5, 10] (fun s i wr => ∃ j sz : Nat, i = .int .i64 (j : Int) ∧ j ≤ len ∧ s = .int .i64 (sz : Int) ∧ sz ≤ j * 3000000 ∧ Hid (cutG (1 : Int) Q = cutFrom (1 : Int) (Q.take j) sz (Q.drop j)) ∧ Below w.heap.size w wr) (fun _ i _ => len - (intOf i).toNat)
  case atStart => exact ⟨0, 0, rfl, Nat.zero_le _, rfl, Nat.zero_le _, rfl, Below.refl _ _⟩
  case round =>
    obtain ⟨j, sz, rfl, hj, rfl, hsz, HCUT, hb⟩ := hrel
    by_cases hlt : j < len
    · have hjL : j < Q.length := by have := unhide HL; omega
      obtain ⟨b, off, rfl, hbB, hc0, hc1, hc2⟩ := unhide HC j hjL
      rw [← hb.cell (p := ⟨b, off + j * 3, none⟩) (by simp; omega)] at hc0
      rw [← hb.cell (p := ⟨b, off + j * 3 + 1, none⟩) (by simp; omega)] at hc1
      rw [← hb.cell (p := ⟨b, off + j * 3 + 2, none⟩) (by simp; omega)] at hc2
      have hx0 : (0 : Int) ≤ (j : Int) := by omega
      have hx1 : (j : Int) < (len : Int) := by omega
      have hsm := unhide HSM _ (List.getElem_mem hjL)
      have HSZ := hide (fun w => implSize_any (1 : Int) Q[j] hsm.1 hsm.2 w)
      have HEN := hide (fun w => implEnds_any Q[j].key (by omega) w)
      have hzl := itSize_le (1 : Int) Q[j]
      have hz3 : itSize (1 : Int) Q[j] ≤ 3000000 := by omega
      have hdr : Q.drop j = Q[j] :: Q.drop (j + 1) := List.drop_eq_getElem_cons hjL
      have HTK : Hid (Q.take (j + 1) = Q.take j ++ [Q[j]]) := List.take_succ_eq_append_getElem hjL
      have HDR := hide hdr
      rw [hdr] at HCUT
      have HNE : Hid (0 < j → Q.take j ≠ []) := fun h0 h => by have h2 := congrArg List.length h; rw [List.length_take, List.length_nil] at h2; omega
      have HE0 : Hid (j = 0 → Q.take j = []) := fun h0 => by rw [h0]; rfl
      have HEE : Hid (endsAt (1 : Int) Q[j] = (decide ((1 : Int) = 1) && (((sumB Q[j].key : Nat) : Int) % 4 == 0))) := rfl
      generalize (((sumB Q[j].key : Nat) : Int) % 4 == 0) = en at HEN HEE
      generalize Q[j] = x at hc0 hc1 hc2 HSZ HEN HCUT HEE hz3 HTK HDR
      have HITV : Hid (itV x = .agg #[.string x.key, .string x.val, .int .i64 x.pg]) := rfl
      generalize hzz : itSize (1 : Int) x = z at HSZ hz3
      have HZZ := hide hzz
      generalize x.key = kx at hc0 HEN HITV
      generalize x.val = vx at hc1 HITV
      generalize x.pg = px at hc2 HITV
      rw [unhide HITV] at HSZ
      clear hzl hsm hdr HITV hzz
      have hsb : (sz : Int) ≤ 4000000000000 := by omega
      have hsb0 : (0 : Int) ≤ (sz : Int) := by omega
      have hzb : (z : Int) ≤ 3000000 := by omega
      have hzb0 : (0 : Int) ≤ (z : Int) := by omega
      have hbn : Below w.heap.size w (wr.alloc (Obj.cells #[Value.string kx, Value.string vx, Value.int .i64 px] 30)) := hb.alloc hb.size _
      have hlz : wr.heap.size < (wr.alloc (Obj.cells #[Value.string kx, Value.string vx, Value.int .i64 px] 30)).heap.size := by simp
      go_wp2_with fail
      refine (unhide HSZ _).mono ?_
      rintro e W ⟨rfl, hbW⟩
      have d0 : W.cell? ⟨wr.heap.size, 0, none⟩ = some (.string kx) := (hbW.cell (p := ⟨wr.heap.size, 0, none⟩) hlz).trans (by simp [go_sem])
      have hblW := hbn.trans (hbW.mono hbn.size)
      clear hbW hbn hlz hb hc0 hc1 hc2 HSZ
      by_cases hfull : 0 < j ∧ 54 < sz + z
      · have hf1 : (0 : Int) < (j : Int) := by omega
        have hf2 : (54 : Int) < (sz : Int) + (z : Int) := by omega
        have HR : Hid (cutG (1 : Int) Q = Q.take j :: cutG (1 : Int) (Q.drop j)) := by
          show _ = _
          rw [unhide HCUT, cutFrom_full (1 : Int) _ sz x _ (unhide HNE hfull.1) (by rw [unhide HZZ]; omega), unhide HDR]
          rfl
        clear HCUT
        go_wp2
        go_ret
        exact ⟨⟨j, rfl, by omega, by omega, unhide HR⟩, hblW⟩
      · have HNOT : Hid (¬ (Q.take j ≠ [] ∧ 54 < sz + itSize (1 : Int) x)) := fun h => hfull ⟨by rcases Nat.eq_zero_or_pos j with h0 | h0; exact absurd (unhide HE0 h0) h.1; exact h0, by rw [← unhide HZZ]; exact h.2⟩
        have hg : (0 : Int) < (j : Int) → ¬ (54 : Int) < (sz : Int) + (z : Int) := by omega
        have HEE : Hid (endsAt (1 : Int) x = en) := by show _ = _; have h := unhide HEE; simpa using h
        by_cases hj0 : (0 : Int) < (j : Int)
        · have hf2 := hg hj0
          go_wp2_with fail
          refine (unhide HEN _).mono ?_
          rintro e Wx ⟨rfl, hWx⟩
          subst Wx
          cases en
          · have HR : Hid (cutG (1 : Int) Q = cutFrom (1 : Int) (Q.take (j + 1)) (sz + z) (Q.drop (j + 1))) := by
              show _ = _
              rw [unhide HCUT, cutFrom_on (1 : Int) _ sz x _ (unhide HNOT) (unhide HEE), unhide HZZ, unhide HTK]
            clear HCUT
            go_wp2
            go_roundw
            case rel => exact ⟨j + 1, sz + z, by go_num, by omega, by go_num, by omega, unhide HR, hblW⟩
            case measure => simp [intOf]; omega
          · have HR : Hid (cutG (1 : Int) Q = Q.take (j + 1) :: cutG (1 : Int) (Q.drop (j + 1))) := by
              show _ = _
              rw [unhide HCUT, cutFrom_ends (1 : Int) _ sz x _ (unhide HNOT) (unhide HEE), unhide HTK]
              rfl
            clear HCUT
            go_wp2
            go_ret
            exact ⟨⟨j + 1, by go_num, by omega, by omega, unhide HR⟩, hblW⟩
        · go_wp2_with fail
          refine (unhide HEN _).mono ?_
          rintro e Wx ⟨rfl, hWx⟩
          subst Wx
          cases en
          · have HR : Hid (cutG (1 : Int) Q = cutFrom (1 : Int) (Q.take (j + 1)) (sz + z) (Q.drop (j + 1))) := by
              show _ = _
              rw [unhide HCUT, cutFrom_on (1 : Int) _ sz x _ (unhide HNOT) (unhide HEE), unhide HZZ, unhide HTK]
            clear HCUT
            go_wp2
            go_roundw
            case rel => exact ⟨j + 1, sz + z, by go_num, by omega, by go_num, by omega, unhide HR, hblW⟩
            case measure => simp [intOf]; omega
          · have HR : Hid (cutG (1 : Int) Q = Q.take (j + 1) :: cutG (1 : Int) (Q.drop (j + 1))) := by
              show _ = _
              rw [unhide HCUT, cutFrom_ends (1 : Int) _ sz x _ (unhide HNOT) (unhide HEE), unhide HTK]
              rfl
            clear HCUT
            go_wp2
            go_ret
            exact ⟨⟨j + 1, by go_num, by omega, by omega, unhide HR⟩, hblW⟩
    · have hje : j = Q.length := by have := unhide HL; omega
      have HR : Hid (cutG (1 : Int) Q = Q.take len :: cutG (1 : Int) (Q.drop len)) := by
        show _ = _
        have hl := unhide HL
        have h := unhide HCUT
        have hd : Q.drop j = [] := by rw [hje]; exact List.drop_length
        have ht : Q.take j = Q := by rw [hje]; exact List.take_length
        rw [hd, ht, cutFrom_end (1 : Int) Q sz (by intro h0; rw [h0] at hl; simp at hl; omega)] at h
        have hd2 : Q.drop len = [] := by rw [← hl]; exact List.drop_length
        have ht2 : Q.take len = Q := by rw [← hl]; exact List.take_length
        rw [hd2, ht2, h]
        show _ = Q :: cutFrom (1 : Int) [] 0 []
        rw [cutFrom_end0]
      have hx1 : ¬ (j : Int) < (len : Int) := by omega
      clear HCUT hje
      go_wp2
      go_ret
      exact ⟨⟨len, rfl, hpos, Nat.le_refl _, unhide HR⟩, hb⟩

set_option maxRecDepth 100000 in
set_option maxHeartbeats 2000000 in
theorem firstGroup_no (a : Option Addr) (len cap B : Nat) (Q : List It) (hlen : len ≤ 1048576) (hpos : 0 < len) (hsm : ∀ x ∈ Q, x.key.size ≤ 1048576 ∧ x.val.size ≤ 1048576) (k : Int) (hk1 : k ≠ 1) (w : World) (hB : B ≤ w.heap.size) (hs : ItemsAt w a len B Q) :
    Calls Try.prog 23 #[.int .i64 k, .slice a len cap] w fun e w' => (∃ f : Nat, e = .returned (.int .i64 (f : Int)) ∧ 0 < f ∧ f ≤ len ∧ cutG k Q = Q.take f :: cutG k (Q.drop f)) ∧ Below w.heap.size w w' := by
  obtain ⟨hL, hc⟩ := hs
  have HC := hide hc
  have HL := hide hL
  have HSM := hide hsm
  clear hc hL hsm
  go_enter Try.func23, Try.ntmps23
  go_wp2_with fail
  go_loopw [5, 10] (fun s i wr => ∃ j sz : Nat, i = .int .i64 (j : Int) ∧ j ≤ len ∧ s = .int .i64 (sz : Int) ∧ sz ≤ j * 3000000 ∧ Hid (cutG k Q = cutFrom k (Q.take j) sz (Q.drop j)) ∧ Below w.heap.size w wr) (fun _ i _ => len - (intOf i).toNat)
  case atStart => exact ⟨0, 0, rfl, Nat.zero_le _, rfl, Nat.zero_le _, rfl, Below.refl _ _⟩
  case round =>
    obtain ⟨j, sz, rfl, hj, rfl, hsz, HCUT, hb⟩ := hrel
    by_cases hlt : j < len
    · have hjL : j < Q.length := by have := unhide HL; omega
      obtain ⟨b, off, rfl, hbB, hc0, hc1, hc2⟩ := unhide HC j hjL
      rw [← hb.cell (p := ⟨b, off + j * 3, none⟩) (by simp; omega)] at hc0
      rw [← hb.cell (p := ⟨b, off + j * 3 + 1, none⟩) (by simp; omega)] at hc1
      rw [← hb.cell (p := ⟨b, off + j * 3 + 2, none⟩) (by simp; omega)] at hc2
      have hx0 : (0 : Int) ≤ (j : Int) := by omega
      have hx1 : (j : Int) < (len : Int) := by omega
      have hsm := unhide HSM _ (List.getElem_mem hjL)
      have HSZ := hide (fun w => implSize_any k Q[j] hsm.1 hsm.2 w)
      have HEN := hide (fun w => implEnds_any Q[j].key (by omega) w)
      have hzl := itSize_le k Q[j]
      have hz3 : itSize k Q[j] ≤ 3000000 := by omega
      have hdr : Q.drop j = Q[j] :: Q.drop (j + 1) := List.drop_eq_getElem_cons hjL
      have HTK : Hid (Q.take (j + 1) = Q.take j ++ [Q[j]]) := List.take_succ_eq_append_getElem hjL
      have HDR := hide hdr
      rw [hdr] at HCUT
      have HNE : Hid (0 < j → Q.take j ≠ []) := fun h0 h => by have h2 := congrArg List.length h; rw [List.length_take, List.length_nil] at h2; omega
      have HE0 : Hid (j = 0 → Q.take j = []) := fun h0 => by rw [h0]; rfl
      have HEE : Hid (endsAt k Q[j] = (decide (k = 1) && (((sumB Q[j].key : Nat) : Int) % 4 == 0))) := rfl
      generalize (((sumB Q[j].key : Nat) : Int) % 4 == 0) = en at HEN HEE
      generalize Q[j] = x at hc0 hc1 hc2 HSZ HEN HCUT HEE hz3 HTK HDR
      have HITV : Hid (itV x = .agg #[.string x.key, .string x.val, .int .i64 x.pg]) := rfl
      generalize hzz : itSize k x = z at HSZ hz3
      have HZZ := hide hzz
      generalize x.key = kx at hc0 HEN HITV
      generalize x.val = vx at hc1 HITV
      generalize x.pg = px at hc2 HITV
      rw [unhide HITV] at HSZ
      clear hzl hsm hdr HITV hzz
      have hsb : (sz : Int) ≤ 4000000000000 := by omega
      have hsb0 : (0 : Int) ≤ (sz : Int) := by omega
      have hzb : (z : Int) ≤ 3000000 := by omega
      have hzb0 : (0 : Int) ≤ (z : Int) := by omega
      have hbn : Below w.heap.size w (wr.alloc (Obj.cells #[Value.string kx, Value.string vx, Value.int .i64 px] 30)) := hb.alloc hb.size _
      have hlz : wr.heap.size < (wr.alloc (Obj.cells #[Value.string kx, Value.string vx, Value.int .i64 px] 30)).heap.size := by simp
      go_wp2_with fail
      refine (unhide HSZ _).mono ?_
      rintro e W ⟨rfl, hbW⟩
      have d0 : W.cell? ⟨wr.heap.size, 0, none⟩ = some (.string kx) := (hbW.cell (p := ⟨wr.heap.size, 0, none⟩) hlz).trans (by simp [go_sem])
      have hblW := hbn.trans (hbW.mono hbn.size)
      clear hbW hbn hlz hb hc0 hc1 hc2 HSZ
      by_cases hfull : 0 < j ∧ 54 < sz + z
      · have hf1 : (0 : Int) < (j : Int) := by omega
        have hf2 : (54 : Int) < (sz : Int) + (z : Int) := by omega
        have HR : Hid (cutG k Q = Q.take j :: cutG k (Q.drop j)) := by
          show _ = _
          rw [unhide HCUT, cutFrom_full k _ sz x _ (unhide HNE hfull.1) (by rw [unhide HZZ]; omega), unhide HDR]
          rfl
        clear HCUT
        go_wp2
        go_ret
        exact ⟨⟨j, rfl, by omega, by omega, unhide HR⟩, hblW⟩
      · have HNOT : Hid (¬ (Q.take j ≠ [] ∧ 54 < sz + itSize k x)) := fun h => hfull ⟨by rcases Nat.eq_zero_or_pos j with h0 | h0; exact absurd (unhide HE0 h0) h.1; exact h0, by rw [← unhide HZZ]; exact h.2⟩
        have hg : (0 : Int) < (j : Int) → ¬ (54 : Int) < (sz : Int) + (z : Int) := by omega
        have HEE : Hid (endsAt k x = false) := by show _ = _; have h := unhide HEE; rw [decide_eq_false hk1, Bool.false_and] at h; exact h
        by_cases hj0 : (0 : Int) < (j : Int)
        · have hf2 := hg hj0
          have HR : Hid (cutG k Q = cutFrom k (Q.take (j + 1)) (sz + z) (Q.drop (j + 1))) := by
            show _ = _
            rw [unhide HCUT, cutFrom_on k _ sz x _ (unhide HNOT) (unhide HEE), unhide HZZ, unhide HTK]
          clear HCUT
          go_wp2
          go_roundw
          case rel => exact ⟨j + 1, sz + z, by go_num, by omega, by go_num, by omega, unhide HR, hblW⟩
          case measure => simp [intOf]; omega
        · have HR : Hid (cutG k Q = cutFrom k (Q.take (j + 1)) (sz + z) (Q.drop (j + 1))) := by
            show _ = _
            rw [unhide HCUT, cutFrom_on k _ sz x _ (unhide HNOT) (unhide HEE), unhide HZZ, unhide HTK]
          clear HCUT
          go_wp2
          go_roundw
          case rel => exact ⟨j + 1, sz + z, by go_num, by omega, by go_num, by omega, unhide HR, hblW⟩
          case measure => simp [intOf]; omega
    · have hje : j = Q.length := by have := unhide HL; omega
      have HR : Hid (cutG k Q = Q.take len :: cutG k (Q.drop len)) := by
        show _ = _
        have hl := unhide HL
        have h := unhide HCUT
        have hd : Q.drop j = [] := by rw [hje]; exact List.drop_length
        have ht : Q.take j = Q := by rw [hje]; exact List.take_length
        rw [hd, ht, cutFrom_end k Q sz (by intro h0; rw [h0] at hl; simp at hl; omega)] at h
        have hd2 : Q.drop len = [] := by rw [← hl]; exact List.drop_length
        have ht2 : Q.take len = Q := by rw [← hl]; exact List.take_length
        rw [hd2, ht2, h]
        show _ = Q :: cutFrom k [] 0 []
        rw [cutFrom_end0]
      have hx1 : ¬ (j : Int) < (len : Int) := by omega
      clear HCUT hje
      go_wp2
      go_ret
      exact ⟨⟨len, rfl, hpos, Nat.le_refl _, unhide HR⟩, hb⟩

theorem firstGroup_any (k : Int) (a : Option Addr) (len cap B : Nat) (Q : List It) (hlen : len ≤ 1048576) (hpos : 0 < len) (hsm : ∀ x ∈ Q, x.key.size ≤ 1048576 ∧ x.val.size ≤ 1048576) (w : World) (hB : B ≤ w.heap.size) (hs : ItemsAt w a len B Q) :
    Calls Try.prog 23 #[.int .i64 k, .slice a len cap] w fun e w' => (∃ f : Nat, e = .returned (.int .i64 (f : Int)) ∧ 0 < f ∧ f ≤ len ∧ cutG k Q = Q.take f :: cutG k (Q.drop f)) ∧ Below w.heap.size w w' := by
  by_cases h : k = 1
  · subst h; exact firstGroup_one a len cap B Q hlen hpos hsm w hB hs
  · exact firstGroup_no a len cap B Q hlen hpos hsm k h w hB hs
end Tr
end Go.Proofs.Yteaidpeifaeckaa
