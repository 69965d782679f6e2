/-
  Texts of this claim, one behind the other: Rp2.
-/
import Derived.Test.YtlakimdgebgdkaaGreatDoorJ41
import Derived.Test.YtlakimdgebgdkaaGreatDoorJ3
import Derived.Deep.Cut

/-
  The contract of spec.Reply: its three kinds of ask, and all of it.
-/
namespace Go.Proofs.YtlakimdgebgdkaaGreatDoor
namespace Rg
open Go.RowKit
open Gr (Blk)

theorem commasF_size : ∀ (L : List Int) (k : Nat) (s : ByteArray), (∀ x ∈ L, 0 ≤ x ∧ x ≤ 1000000000) → (commasF k s L).size ≤ s.size + 21 * L.length
  | [], k, s, _ => by simp [commasF]
  | x :: L, k, s, h => by
    rw [commasF]
    have hx := h x (by simp)
    obtain ⟨n, rfl⟩ := Int.eq_ofNat_of_zero_le hx.1
    have hd := decB_size n (by omega)
    have ih := commasF_size L (k + 1) ((if 0 < k then s ++ ⟨#[44]⟩ else s) ++ decB (n : Int)) (fun y hy => h y (by simp [hy]))
    have h2 : ((if 0 < k then s ++ ⟨#[44]⟩ else s) ++ decB (n : Int)).size ≤ s.size + 21 := by
      rw [ByteArray.size_append]
      split
      · rw [ByteArray.size_append]
        have : (ByteArray.mk #[44]).size = 1 := rfl
        omega
      · omega
    simp only [List.length_cons]
    omega

theorem hexT_size (t : ByteArray) : (hexT t).size ≤ 16000 := by
  unfold hexT
  split
  · show (Hx.hexB t.data.toList).toArray.size ≤ 16000
    rw [List.size_toArray, Hx.hexB_length, Array.length_toList]
    have : t.data.size = t.size := rfl
    omega
  · show (0 : Nat) ≤ 16000
    omega

theorem specHex_all (t : ByteArray) (w : World) : Calls Tryz.prog 16 #[.string t] w fun e w' => (∃ b : Bool, e = .returned (.tuple #[.string (hexT t), .bool b])) ∧ Below w.heap.size w w' := by
  by_cases h : t.size ≤ 8000
  · refine (Hx.specHex_yes t h w).mono ?_
    rintro e w' ⟨rfl, hb⟩
    exact ⟨⟨true, by unfold hexT; rw [if_pos h]⟩, hb⟩
  · refine (Hx.specHex_no t (by omega) w).mono ?_
    rintro e w' ⟨rfl, hb⟩
    refine ⟨⟨false, by unfold hexT; rw [if_neg h]⟩, ?_⟩
    first | exact hb | (subst hb; exact Below.refl _ _)

theorem roP_range (Q : PL) (r : Int) : ∀ x ∈ roP Q r, 0 ≤ x ∧ x ≤ 1000000000 := by
  intro x hx
  unfold roP at hx
  split at hx
  · have := pool_bytes Q _ x hx; omega
  · simp at hx

theorem state_len {Q : PL} (h : stateOk Q = true) : Q.length ≤ 120 := by
  have := (state_map h).1.1
  omega

set_option maxRecDepth 100000 in
set_option maxHeartbeats 1000000 in
theorem reply_clear (a : Option Addr) (len cap B : Nat) (Q : PL) (x : Gr.AskI) (hst : stateOk Q = true) (hop : x.Op = 4) (hlen : len ≤ 1048576) (w : World) (hB : B ≤ w.heap.size) (hs : Tr.PairsAt w a len B Q) :
    Calls Tryz.prog 5 #[.slice a len cap, x.v, .int .i64 0] w fun e w' => e = .returned (.string (replyT Q x.Op x.A 0)) ∧ Below w.heap.size w w' := by
  have hl120 : len ≤ 1000 := by have := state_len hst; have := hs.1; omega
  have hr6 := (state_map hst).2
  have hR : replyT Q x.Op x.A 0 = (⟨#[111, 107]⟩ ++ ⟨#[32]⟩) ++ decB ((rnds Q : Int) - 1) := by unfold replyT; rw [if_neg (by simp), if_neg (by rw [hst]; simp), if_pos hop]; rfl
  rw [hR]
  have SO := hide (fun w1 (hb : Below w.heap.size w w1) => state_any a len cap B Q hlen w1 (by have := hb.size; omega) (hs.below hb hB))
  rw [hst] at SO
  have RN := hide (fun w1 (hb : Below w.heap.size w w1) => rounds_any a len cap B Q hl120 w1 (by have := hb.size; omega) (hs.below hb hB))
  have DE := hide (fun w1 => Dc.specDec_any ((rnds Q : Int) - 1) (by omega) (by omega) w1)
  have HDB : Hid ((⟨(Lib.itoa ((rnds Q : Int) - 1)).toArray⟩ : ByteArray) = decB ((rnds Q : Int) - 1)) := rfl
  have hds := decB_short ((rnds Q : Int) - 1) (by omega) (by omega)
  generalize rnds Q = n at RN DE HDB hds hr6 ⊢
  generalize decB ((n : Int) - 1) = d at HDB hds ⊢
  have hs3 : (ByteArray.mk #[111, 107] ++ ByteArray.mk #[32]).size = 3 := rfl
  obtain ⟨op, x1, x2, x3, x4, x5⟩ := x
  simp only at hop
  subst hop
  unfold Gr.AskI.v
  simp only
  have hn6 : (n : Int) ≤ 6 := by omega
  have hn0 : (0 : Int) ≤ (n : Int) := by omega
  clear hR hst hs hl120
  go_enter Tryz.func5, Tryz.ntmps5
  go_wp2_with fail
  obtain ⟨U, hU⟩ : ∃ W, W = w.alloc (Obj.cells #[Value.int .i64 4, Value.int .i64 x1, Value.int .i64 x2, Value.int .i64 x3, Value.int .i64 x4, Value.int .i64 x5] 29) := ⟨_, rfl⟩
  rw [← hU]
  have bU : Below w.heap.size w U := by rw [hU]; exact Gr.below_new _ _
  have mU : Blk U w.heap.size #[Value.int .i64 4, Value.int .i64 x1, Value.int .i64 x2, Value.int .i64 x3, Value.int .i64 x4, Value.int .i64 x5] 29 := by rw [hU]; exact Gr.Blk.new0
  clear hU
  refine (unhide SO U bU).mono ?_
  rintro e w2 ⟨rfl, hb2⟩
  have b2 := bU.trans (hb2.mono bU.size)
  have c0 : w2.cell? ⟨w.heap.size, 0, none⟩ = some (.int .i64 4) := (mU.below hb2).cell 0 _ rfl
  clear hb2 mU bU SO
  go_wp2_with fail
  refine (unhide RN w2 b2).mono ?_
  rintro e w3 ⟨rfl, hb3⟩
  have b3 := b2.trans (hb3.mono b2.size)
  clear hb3 c0 RN
  go_wp2_with fail
  refine (unhide DE _).mono ?_
  rintro e w4 ⟨rfl, hb4⟩
  rw [unhide HDB]
  have b4 := b3.trans (hb4.mono b3.size)
  have hcat : ¬ 9223372036854775807 < (ByteArray.mk #[111, 107] ++ ByteArray.mk #[32]).size + d.size := by omega
  clear hb4 DE HDB
  go_wp2_with fail
  go_ret
  exact ⟨rfl, b4⟩

set_option maxRecDepth 100000 in
set_option maxHeartbeats 1000000 in
theorem reply_other (a : Option Addr) (len cap B : Nat) (Q : PL) (x : Gr.AskI) (hst : stateOk Q = true) (h4 : x.Op ≠ 4) (h5 : x.Op ≠ 5) (h6 : x.Op ≠ 6) (hlen : len ≤ 1048576) (w : World) (hB : B ≤ w.heap.size) (hs : Tr.PairsAt w a len B Q) :
    Calls Tryz.prog 5 #[.slice a len cap, x.v, .int .i64 0] w fun e w' => e = .returned (.string (replyT Q x.Op x.A 0)) ∧ Below w.heap.size w w' := by
  have hR : replyT Q x.Op x.A 0 = ⟨#[111, 107]⟩ := by unfold replyT; rw [if_neg (by simp), if_neg (by rw [hst]; simp), if_neg h4, if_neg h5, if_neg h6]; rfl
  rw [hR]
  have SO := hide (fun w1 (hb : Below w.heap.size w w1) => state_any a len cap B Q hlen w1 (by have := hb.size; omega) (hs.below hb hB))
  rw [hst] at SO
  obtain ⟨op, x1, x2, x3, x4, x5⟩ := x
  simp only at h4 h5 h6
  have e4 : (op == 4) = false := by simp; exact h4
  have e5 : (op == 5) = false := by simp; exact h5
  have e6 : (op == 6) = false := by simp; exact h6
  unfold Gr.AskI.v
  simp only
  clear hR hst hs h4 h5 h6
  go_enter Tryz.func5, Tryz.ntmps5
  go_wp2_with fail
  obtain ⟨U, hU⟩ : ∃ W, W = w.alloc (Obj.cells #[Value.int .i64 op, Value.int .i64 x1, Value.int .i64 x2, Value.int .i64 x3, Value.int .i64 x4, Value.int .i64 x5] 29) := ⟨_, rfl⟩
  rw [← hU]
  have bU : Below w.heap.size w U := by rw [hU]; exact Gr.below_new _ _
  have mU : Blk U w.heap.size #[Value.int .i64 op, Value.int .i64 x1, Value.int .i64 x2, Value.int .i64 x3, Value.int .i64 x4, Value.int .i64 x5] 29 := by rw [hU]; exact Gr.Blk.new0
  clear hU
  refine (unhide SO U bU).mono ?_
  rintro e w2 ⟨rfl, hb2⟩
  have b2 := bU.trans (hb2.mono bU.size)
  have c0 : w2.cell? ⟨w.heap.size, 0, none⟩ = some (.int .i64 op) := (mU.below hb2).cell 0 _ rfl
  clear hb2 mU bU SO
  go_wp2_with fail
  go_ret
  exact ⟨rfl, b2⟩

theorem show_step (Q : PL) (L : List Int) (s : ByteArray) (k : Nat) (h : k < L.length) : showF Q s (L.drop k) = showF Q (((s ++ spB) ++ decB L[k]) ++ oT (getP Q (⟨#[118]⟩ ++ tw (L[k]).toNat))) (L.drop (k + 1)) := by
  rw [List.drop_eq_getElem_cons h]
  rfl

theorem get_small {Q : PL} (h : Tr.MapR Q) (k : ByteArray) : (oT (getP Q k)).size ≤ 40 := by
  have hp := map_pair h
  clear h
  induction Q with
  | nil => show (0 : Nat) ≤ 40; omega
  | cons q Q ih =>
    rw [getP]
    split
    · exact (hp q (by simp)).2.2
    · exact ih (fun x hx => hp x (by simp [hx]))

theorem ids_range (word : List UInt8) : ∀ (Q : PL), ∀ x ∈ idsP word Q, 0 ≤ x ∧ x ≤ 99
  | [], x, hx => by simp [idsP] at hx
  | q :: Q, x, hx => by
    rw [idsP] at hx
    split at hx
    · rcases List.mem_cons.1 hx with rfl | hx
      · unfold oN
        cases h : numP (q.1.extract 1 q.1.size) with
        | none => simp
        | some n => have := numP_le h; simp; omega
      · exact ids_range word Q x hx
    · exact ids_range word Q x hx

set_option maxRecDepth 100000 in
set_option maxHeartbeats 2000000 in
theorem reply_show (a : Option Addr) (len cap B : Nat) (Q : PL) (x : Gr.AskI) (hst : stateOk Q = true) (hop : x.Op = 6) (hlen : len ≤ 1048576) (w : World) (hB : B ≤ w.heap.size) (hs : Tr.PairsAt w a len B Q) :
    Calls Tryz.prog 5 #[.slice a len cap, x.v, .int .i64 0] w fun e w' => e = .returned (.string (replyT Q x.Op x.A 0)) ∧ Below w.heap.size w w' := by
  have hM := (state_map hst).1
  have hl120 := state_len hst
  have hR : replyT Q x.Op x.A 0 = showF Q ⟨#[111, 107]⟩ ((idsP [] Q).drop 0) := by unfold replyT; rw [if_neg (by simp), if_neg (by rw [hst]; simp), if_neg (by omega), if_neg (by omega), if_pos hop]; rfl
  have SO := hide (fun w1 (hb : Below w.heap.size w w1) => state_any a len cap B Q hlen w1 (by have := hb.size; omega) (hs.below hb hB))
  rw [hst] at SO
  have II := hide (fun w1 (hb : Below w.heap.size w w1) => ids_all a len cap B Q hlen (fun q hq => ⟨(map_pair hM q hq).1, (map_pair hM q hq).2.1⟩) w1 (by have := hb.size; omega) (hs.below hb hB))
  have GE := hide (fun k w1 (hb : Below w.heap.size w w1) => get_any a len cap B Q k (by omega) w1 (hs.below hb hB))
  have TW := hide (fun n (h : n ≤ 99) w1 => two_any n (by omega) w1)
  have DE := hide (fun (n : Nat) (h : n ≤ 99) w1 => Dc.specDec_any (n : Int) (by omega) (by omega) w1)
  have HDS := hide (fun (n : Nat) (h : n ≤ 99) => decB_size n (by omega))
  have HTS := hide (fun (n : Nat) (h : n ≤ 99) => tw_size n (by omega))
  have HGS := hide (fun k => get_small hM k)
  have HST := hide (fun s k h => show_step Q (idsP [] Q) s k h)
  have HIR := hide (ids_range [] Q)
  have hil : (idsP [] Q).length ≤ 120 := by have := ids_short [] Q; omega
  have HEND : Hid (∀ s, showF Q s ((idsP [] Q).drop (idsP [] Q).length) = s) := fun s => by show showF Q s _ = s; rw [List.drop_length]; rfl
  generalize replyT Q x.Op x.A 0 = R at hR ⊢
  have HR := hide hR
  generalize idsP [] Q = L at HR II HST HIR hil HEND
  clear hM hR hst hs
  obtain ⟨op, x1, x2, x3, x4, x5⟩ := x
  simp only at hop
  subst hop
  unfold Gr.AskI.v
  simp only
  go_enter Tryz.func5, Tryz.ntmps5
  go_wp2_with fail
  obtain ⟨U, hU⟩ : ∃ W, W = w.alloc (Obj.cells #[Value.int .i64 6, Value.int .i64 x1, Value.int .i64 x2, Value.int .i64 x3, Value.int .i64 x4, Value.int .i64 x5] 29) := ⟨_, rfl⟩
  rw [← hU]
  have bU : Below w.heap.size w U := by rw [hU]; exact Gr.below_new _ _
  have mU : Blk U w.heap.size #[Value.int .i64 6, Value.int .i64 x1, Value.int .i64 x2, Value.int .i64 x3, Value.int .i64 x4, Value.int .i64 x5] 29 := by rw [hU]; exact Gr.Blk.new0
  clear hU
  refine (unhide SO U bU).mono ?_
  rintro e w2 ⟨rfl, hb2⟩
  have b2 := bU.trans (hb2.mono bU.size)
  have c0 : w2.cell? ⟨w.heap.size, 0, none⟩ = some (.int .i64 6) := (mU.below hb2).cell 0 _ rfl
  clear hb2 mU bU SO
  go_wp2_with fail
  refine (unhide II w2 b2).mono ?_
  rintro e w3 ⟨⟨d, rfl, hO⟩, hb3⟩
  have b3 := b2.trans (hb3.mono b2.size)
  obtain ⟨ia, ic, rfl, hI⟩ := Gr.intsAt_of_own hO
  obtain ⟨n, hn⟩ : ∃ n, n = L.length := ⟨_, rfl⟩
  rw [← hn] at hil HEND ⊢
  have HC := hide hI.2
  have HN := hide hn
  clear hb3 c0 II hO hI hn
  go_wp2_with fail
  go_loopw [7, 16] (fun sv iv wr => ∃ (k : Nat) (s : ByteArray), iv = .int .i64 (k : Int) ∧ sv = .string s ∧ k ≤ n ∧ s.size ≤ 2 + 100 * k ∧ Hid (R = showF Q s (L.drop k)) ∧ Below w3.heap.size w3 wr) (fun _ iv _ => n - (intOf iv).toNat)
  case atStart => exact ⟨0, ⟨#[111, 107]⟩, rfl, rfl, Nat.zero_le _, by show 2 ≤ _; omega, unhide HR, Below.refl _ _⟩
  case round =>
    obtain ⟨k, s, rfl, rfl, hk, hsz, HA, hbr⟩ := hrel
    have bw := b3.trans (hbr.mono b3.size)
    by_cases hlt : k < n
    · have hkL : k < L.length := by have := unhide HN; omega
      obtain ⟨b, off, rfl, hbB, c1⟩ := unhide HC k hkL
      have c2 : wr.cell? ⟨b, off + k, none⟩ = some (.int .i64 L[k]) := by rw [hbr.cell (p := ⟨b, off + k, none⟩) (by simp; omega)]; exact c1
      have hx := unhide HIR _ (List.getElem_mem hkL)
      have HS := hide ((unhide HA).trans (unhide HST s k hkL))
      generalize L[k] = y at c1 c2 hx HS
      obtain ⟨yn, rfl⟩ := Int.eq_ofNat_of_zero_le hx.1
      have hyn : yn ≤ 99 := by omega
      have TWk := hide (fun w1 => unhide TW yn hyn w1)
      have DEk := hide (fun w1 => unhide DE yn hyn w1)
      have HDB : Hid ((⟨(Lib.itoa (yn : Int)).toArray⟩ : ByteArray) = decB (yn : Int)) := rfl
      have hds := unhide HDS yn hyn
      have hts := unhide HTS yn hyn
      have hgs := unhide HGS (⟨#[118]⟩ ++ tw yn)
      have GEk := hide (fun w1 hb => unhide GE (⟨#[118]⟩ ++ tw yn) w1 hb)
      rw [Int.toNat_natCast] at HS
      generalize oT (getP Q (⟨#[118]⟩ ++ tw yn)) = gv at hgs GEk HS
      generalize (getP Q (⟨#[118]⟩ ++ tw yn)).isSome = gb at GEk
      generalize tw yn = ty at TWk GEk hts
      generalize decB (yn : Int) = dy at HDB hds HS
      have hx0 : (0 : Int) ≤ (k : Int) := by omega
      have hx1 : (k : Int) < (n : Int) := by omega
      have h118 : (ByteArray.mk #[118]).size = 1 := rfl
      have h32 : (ByteArray.mk #[32]).size = 1 := rfl
      have hcat : ¬ 9223372036854775807 < (ByteArray.mk #[118]).size + ty.size := by omega
      clear c1
      go_wp2_with fail
      refine (unhide TWk _).mono ?_
      rintro e w4 ⟨rfl, hb4⟩
      have b4 := hbr.trans (hb4.mono hbr.size)
      have bw4 := bw.trans (hb4.mono bw.size)
      have c4 : w4.cell? ⟨b, off + k, none⟩ = some (.int .i64 (yn : Int)) := by rw [hb4.cell (p := ⟨b, off + k, none⟩) (by have := hbr.size; simp; omega)]; exact c2
      clear hb4 c2
      go_wp2_with fail
      refine (unhide GEk w4 bw4).mono ?_
      rintro e w5 ⟨rfl, rfl⟩
      have hcat1 : ¬ 9223372036854775807 < s.size + (ByteArray.mk #[32]).size := by omega
      have hs1 : (s ++ ByteArray.mk #[32]).size = s.size + 1 := by rw [ByteArray.size_append]; rfl
      go_wp2_with fail
      refine (unhide DEk _).mono ?_
      rintro e w6 ⟨rfl, hb6⟩
      rw [unhide HDB]
      have b6 := b4.trans (hb6.mono b4.size)
      have hcat2 : ¬ 9223372036854775807 < (s ++ ByteArray.mk #[32]).size + dy.size := by omega
      have hs2 : ((s ++ ByteArray.mk #[32]) ++ dy).size = s.size + 1 + dy.size := by rw [ByteArray.size_append, hs1]
      have hcat3 : ¬ 9223372036854775807 < ((s ++ ByteArray.mk #[32]) ++ dy).size + gv.size := by omega
      have hs3 : (((s ++ ByteArray.mk #[32]) ++ dy) ++ gv).size ≤ 2 + 100 * (k + 1) := by rw [ByteArray.size_append, hs2]; omega
      clear hb6 c4 hs1 hs2
      go_wp2_with fail
      exact ⟨⟨k + 1, _, by go_num, rfl, by omega, hs3, unhide HS, b6⟩, by simp [intOf]; omega⟩
    · obtain rfl : k = n := by omega
      have hRs : R = s := (unhide HA).trans (unhide HEND s)
      subst hRs
      have hx1 : ¬ (k : Int) < (k : Int) := by omega
      go_wp2_with fail
      go_ret
      exact ⟨rfl, bw⟩

set_option maxRecDepth 100000 in
set_option maxHeartbeats 2000000 in
theorem reply_audit (a : Option Addr) (len cap B : Nat) (Q : PL) (x : Gr.AskI) (hst : stateOk Q = true) (hop : x.Op = 5) (hlen : len ≤ 1048576) (w : World) (hB : B ≤ w.heap.size) (hs : Tr.PairsAt w a len B Q) :
    Calls Tryz.prog 5 #[.slice a len cap, x.v, .int .i64 0] w fun e w' => e = .returned (.string (replyT Q x.Op x.A 0)) ∧ Below w.heap.size w w' := by
  have hR : replyT Q x.Op x.A 0 = if roOk Q x.A = true then (((⟨#[111, 107]⟩ ++ ⟨#[32]⟩) ++ commas (roP Q x.A)) ++ ⟨#[32]⟩) ++ hexT (Gr.certT (roC Q x.A).s (roC Q x.A).Q (roC Q x.A).M (roC Q x.A).Y (roC Q x.A).G) else ⟨#[111, 107]⟩ := by unfold replyT; rw [if_neg (by simp), if_neg (by rw [hst]; simp), if_neg (by omega), if_pos hop]; rfl
  have SO := hide (fun w1 (hb : Below w.heap.size w w1) => state_any a len cap B Q hlen w1 (by have := hb.size; omega) (hs.below hb hB))
  rw [hst] at SO
  have RO := hide (fun w1 (hb : Below w.heap.size w w1) => specRound_any a len cap B Q x.A hlen w1 (by have := hb.size; omega) (hs.below hb hB))
  have hcs := (Gr.roC_small Q x.A).1
  have hps := Gr.roP_small Q x.A
  have hpr := roP_range Q x.A
  have CT := hide (fun B' v w1 hB1 hv => Gr.specCertText_gen B' v (roC Q x.A).s (roC Q x.A).Q (roC Q x.A).M (roC Q x.A).Y (roC Q x.A).G hcs w1 hB1 hv)
  have HX := hide (fun t w1 => specHex_all t w1)
  have CO := hide (fun a' n c B' w1 hn hB1 hs1 => commas_any a' n c B' (roP Q x.A) hn hpr w1 hB1 hs1)
  have hcz := commasF_size (roP Q x.A) 0 ⟨#[]⟩ hpr
  have hcz2 : (commas (roP Q x.A)).size ≤ 2100000 := by
    unfold commas
    have : (ByteArray.mk #[]).size = 0 := rfl
    omega
  generalize replyT Q x.Op x.A 0 = R at hR ⊢
  generalize commas (roP Q x.A) = cm at hR CO hcz2
  generalize roP Q x.A = P at RO CO hps
  generalize roC Q x.A = C at hR RO CT
  have HXC := hide (fun w1 => unhide HX (Gr.certT C.s C.Q C.M C.Y C.G) w1)
  have hhz := hexT_size (Gr.certT C.s C.Q C.M C.Y C.G)
  generalize hexT (Gr.certT C.s C.Q C.M C.Y C.G) = hx at hR HXC hhz
  generalize Gr.certT C.s C.Q C.M C.Y C.G = ct at CT HXC
  generalize Gr.certR C.s C.Q C.M C.Y C.G = cr at CT
  generalize roOk Q x.A = ok at hR RO
  have HR := hide hR
  obtain ⟨op, x1, x2, x3, x4, x5⟩ := x
  simp only at hop RO
  subst hop
  unfold Gr.AskI.v
  simp only
  clear hR hst hs hcs hcz HX hpr
  go_enter Tryz.func5, Tryz.ntmps5
  go_wp2_with fail
  obtain ⟨U, hU⟩ : ∃ W, W = w.alloc (Obj.cells #[Value.int .i64 5, Value.int .i64 x1, Value.int .i64 x2, Value.int .i64 x3, Value.int .i64 x4, Value.int .i64 x5] 29) := ⟨_, rfl⟩
  rw [← hU]
  have bU : Below w.heap.size w U := by rw [hU]; exact Gr.below_new _ _
  have mU : Blk U w.heap.size #[Value.int .i64 5, Value.int .i64 x1, Value.int .i64 x2, Value.int .i64 x3, Value.int .i64 x4, Value.int .i64 x5] 29 := by rw [hU]; exact Gr.Blk.new0
  clear hU
  refine (unhide SO U bU).mono ?_
  rintro e w2 ⟨rfl, hb2⟩
  have b2 := bU.trans (hb2.mono bU.size)
  have c0 : w2.cell? ⟨w.heap.size, 0, none⟩ = some (.int .i64 5) := (mU.below hb2).cell 0 _ rfl
  have c1 : w2.cell? ⟨w.heap.size, 1, none⟩ = some (.int .i64 x1) := (mU.below hb2).cell 1 _ rfl
  clear hb2 mU bU SO
  go_wp2_with fail
  refine (unhide RO w2 b2).mono ?_
  rintro e w3 ⟨⟨d, c, rfl, hO, hC⟩, hb3⟩
  have b3 := b2.trans (hb3.mono b2.size)
  obtain ⟨ia, ic, rfl, hI⟩ := Gr.intsAt_of_own hO
  have hC2 := hC
  obtain ⟨a1, c1', a2, c2', a3, c3', a4, c4', rfl, _⟩ := hC2
  obtain ⟨V, hV⟩ : ∃ W, W = w3.alloc (Obj.cells #[Value.int .i64 C.s, .slice a1 C.Q.length c1', .slice a2 C.M.length c2', .slice a3 C.Y.length c3', .slice a4 C.G.length c4'] 48) := ⟨_, rfl⟩
  have nV : Below w3.heap.size w3 V := by rw [hV]; exact Gr.below_new _ _
  have HCV := hide (hC.below nV (Nat.le_refl _))
  have HIV := hide (hI.below nV (Nat.le_refl _))
  have mV : Blk V w3.heap.size #[Value.int .i64 C.s, .slice a1 C.Q.length c1', .slice a2 C.M.length c2', .slice a3 C.Y.length c3', .slice a4 C.G.length c4'] 48 := by rw [hV]; exact Gr.Blk.new0
  have HBV := hide (b3.trans (nV.mono b3.size))
  have zV : w3.heap.size ≤ V.heap.size := nV.size
  have HV := hide hV
  clear hb3 c0 c1 hO hC hI nV RO hV
  go_upto_region 11 with fail
  rw [← unhide HV]
  clear HV
  have k0 : V.cell? ⟨w3.heap.size, 0, none⟩ = some (.int .i64 C.s) := mV.cell 0 _ rfl
  have k1 : V.cell? ⟨w3.heap.size, 1, none⟩ = some (.slice a1 C.Q.length c1') := mV.cell 1 _ rfl
  have k2 : V.cell? ⟨w3.heap.size, 2, none⟩ = some (.slice a2 C.M.length c2') := mV.cell 2 _ rfl
  have k3 : V.cell? ⟨w3.heap.size, 3, none⟩ = some (.slice a3 C.Y.length c3') := mV.cell 3 _ rfl
  have k4 : V.cell? ⟨w3.heap.size, 4, none⟩ = some (.slice a4 C.G.length c4') := mV.cell 4 _ rfl
  clear mV
  go_wp2_with fail
  refine (unhide CT _ _ V zV (unhide HCV)).mono ?_
  rintro e w4 ⟨rfl, hb4⟩
  have HB4 := hide ((unhide HBV).trans (hb4.mono (unhide HBV).size))
  have HI4 := hide ((unhide HIV).below hb4 zV)
  have z4 : w3.heap.size ≤ w4.heap.size := Nat.le_trans zV hb4.size
  clear hb4 HBV HIV HCV k0 k1 k2 k3 k4 CT zV
  go_wp2_with fail
  refine (unhide HXC _).mono ?_
  rintro e w5 ⟨⟨hb, rfl⟩, hb5⟩
  have HB5 := hide ((unhide HB4).trans (hb5.mono (unhide HB4).size))
  have HI5 := hide ((unhide HI4).below hb5 z4)
  have z5 : w3.heap.size ≤ w5.heap.size := Nat.le_trans z4 hb5.size
  clear hb5 HB4 HI4 HXC
  cases ok with
  | false =>
    have hRs : R = ⟨#[111, 107]⟩ := by rw [unhide HR]; rfl
    subst hRs
    go_wp2_with fail
    go_ret
    exact ⟨rfl, unhide HB5⟩
  | true =>
    have hRs := unhide HR
    rw [if_pos rfl] at hRs
    have HRS := hide hRs
    clear hRs HR
    go_wp2_with fail
    refine (unhide CO ia P.length ic w3.heap.size w5 hps z5 (unhide HI5)).mono ?_
    rintro e w6 ⟨rfl, hb6⟩
    have HB6 := hide ((unhide HB5).trans (hb6.mono (unhide HB5).size))
    have hs3 : (ByteArray.mk #[111, 107] ++ ByteArray.mk #[32]).size = 3 := rfl
    have h32 : (ByteArray.mk #[32]).size = 1 := rfl
    have hcat1 : ¬ 9223372036854775807 < (ByteArray.mk #[111, 107] ++ ByteArray.mk #[32]).size + cm.size := by omega
    have e1 : ((ByteArray.mk #[111, 107] ++ ByteArray.mk #[32]) ++ cm).size = 3 + cm.size := by rw [ByteArray.size_append, hs3]
    have hcat2 : ¬ 9223372036854775807 < ((ByteArray.mk #[111, 107] ++ ByteArray.mk #[32]) ++ cm).size + (ByteArray.mk #[32]).size := by omega
    have e2 : (((ByteArray.mk #[111, 107] ++ ByteArray.mk #[32]) ++ cm) ++ ByteArray.mk #[32]).size = 3 + cm.size + 1 := by rw [ByteArray.size_append, e1, h32]
    have hcat3 : ¬ 9223372036854775807 < (((ByteArray.mk #[111, 107] ++ ByteArray.mk #[32]) ++ cm) ++ ByteArray.mk #[32]).size + hx.size := by omega
    clear hb6 HB5 HI5 e1 e2
    go_wp2_with fail
    go_ret
    rw [unhide HRS]
    exact ⟨rfl, unhide HB6⟩

theorem specReply_any (a : Option Addr) (len cap B : Nat) (Q : PL) (x : Gr.AskI) (code : Int) (h0 : -9223372036854775808 ≤ code) (h1 : code ≤ 9223372036854775807) (hlen : len ≤ 1048576) (w : World) (hB : B ≤ w.heap.size) (hs : Tr.PairsAt w a len B Q) :
    Calls Tryz.prog 5 #[.slice a len cap, x.v, .int .i64 code] w fun e w' => e = .returned (.string (replyT Q x.Op x.A code)) ∧ Below w.heap.size w w' := by
  by_cases hc : code = 0
  · subst hc
    cases hst : stateOk Q with
    | false => exact reply_bad a len cap B Q x hst hlen w hB hs
    | true =>
      by_cases h4 : x.Op = 4
      · exact reply_clear a len cap B Q x hst h4 hlen w hB hs
      · by_cases h5 : x.Op = 5
        · exact reply_audit a len cap B Q x hst h5 hlen w hB hs
        · by_cases h6 : x.Op = 6
          · exact reply_show a len cap B Q x hst h6 hlen w hB hs
          · exact reply_other a len cap B Q x hst h4 h5 h6 hlen w hB hs
  · exact reply_fail _ x code Q hc h0 h1 w

end Rg
end Go.Proofs.YtlakimdgebgdkaaGreatDoor
