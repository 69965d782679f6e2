/-
  Texts of this claim, one behind the other: Lg3, Lg8.
-/
import Derived.Test.YtjblkijicfmkgaaGreatDoorJ13
import Derived.Test.YtjblkijicfmkgaaGreatDoorJ3
import Derived.Test.YtjblkijicfmkgaaGreatDoorJ41
import Derived.Deep.AppendLies
import Derived.Deep.RegionHeldLaw

/-
  The ledger, the specification's: the couples of a round, as ids.
-/
namespace Go.Proofs.YtjblkijicfmkgaaGreatDoor
namespace Rg
open Go.RowKit
open Gr (Blk Kept)

theorem couple_one' (x y : Int) : ∀ u ∈ [Value.int .i64 x, Value.int .i64 y], u.oneCell' = true := by
  intro u hu
  simp only [List.mem_cons, List.mem_nil_iff, or_false] at hu
  rcases hu with rfl | rfl <;> rfl

theorem row_shape0' {w : World} {B e z n : Nat} {v : Value} {xs : List Value} (h : w.ownsRow B e z v n xs) : ∃ A c, v = .slice A n c := by
  rcases h.2 with ⟨rfl, h0⟩ | ⟨g, cap, cur, rfl, _⟩
  · exact ⟨none, 0, by rw [h0]⟩
  · exact ⟨_, _, rfl⟩

theorem own_nil {W : World} {g base e size : Nat} (h : Blk W g #[] e) (hb : base ≤ g) : W.ownsRow base e size (.slice (some ⟨g, 0, none⟩) 0 0) 0 [] :=
  ⟨by simp, .inr ⟨g, 0, #[], rfl, hb, h, Nat.zero_le _, by decide, by simp, by simp⟩⟩

set_option maxRecDepth 100000 in
set_option maxHeartbeats 4000000 in
theorem specCouples_any (a : Option Addr) (len cap B : Nat) (Q : PL) (r : Int) (hlen : len ≤ 1048576) (w : World) (hB : B ≤ w.heap.size) (hs : Tr.PairsAt w a len B Q) :
    Calls Tryz.prog 16 #[.slice a len cap, .int .i64 r] w fun e w' => (∃ d, e = .returned (.tuple #[d, .bool (roOk Q r)]) ∧ Gr.CoOwn w' w.heap.size d (roM Q r)) ∧ Below w.heap.size w w' := by
  obtain ⟨i1, hi1, hz0, hz1, hz2⟩ := info_parts Gr.infoCouple
  have RO := hide (fun w1 (hb : Below w.heap.size w w1) => specRound_any a len cap B Q r hlen w1 (by have := hb.size; omega) (hs.below hb hB))
  obtain ⟨h9, hMM, _⟩ := ro_bounds Q r
  have HMM := hide hMM
  have HRM : Hid (roM Q r = coupK (roP Q r) (roC Q r).M) := rfl
  have HSN := hide (fun j h => coupK_snoc (roP Q r) (roC Q r).M j h)
  have HCL := hide (fun M => coupK_length (roP Q r) M)
  have HKA : Hid (∀ i : Int, 0 ≤ i → i < ((roP Q r).length : Int) → ∃ (k : Nat) (h : k < (roP Q r).length), i = (k : Int) ∧ kid (roP Q r) i = (roP Q r)[k]) := fun i h0 h1 => kid_at h0 h1
  generalize roM Q r = RM at HRM ⊢
  generalize roP Q r = K at RO HMM HRM HSN HCL HKA
  generalize roC Q r = C at RO HMM HRM HSN h9
  generalize roOk Q r = OK at RO ⊢
  have HE : Hid (coupK K (C.M.take C.M.length) = RM) := by show _ = _; rw [List.take_length]; exact (unhide HRM).symm
  clear hMM hs
  obtain ⟨V1, hV1⟩ : ∃ W, W = w.alloc (Obj.cells #[Value.int .i64 0, Value.slice none 0 0, Value.slice none 0 0, Value.slice none 0 0, Value.slice none 0 0] 59) := ⟨_, rfl⟩
  go_enter Tryz.func16, Tryz.ntmps16
  go_wp2_with fail
  refine (unhide RO w (Below.refl _ _)).mono ?_
  rintro e w2 ⟨⟨d, cv, rfl, hd, hc⟩, hb2⟩
  obtain ⟨pa, pc, rfl, hK⟩ := hd.at
  obtain ⟨a1, k1, a2, k2, a3, k3, a4, k4, rfl, _, ⟨a', c', e3, hcc⟩, _⟩ := hc
  simp only [Value.slice.injEq, true_and] at e3
  obtain ⟨rfl, rfl⟩ := e3
  obtain ⟨W3, hW3⟩ : ∃ W, W = (w2.alloc (Obj.cells #[Value.int .i64 C.s, Value.slice a1 C.Q.length k1, Value.slice a2 C.M.length k2, Value.slice a3 C.Y.length k3, Value.slice a4 C.G.length k4] 59)).alloc (Obj.cells #[] 93) := ⟨_, rfl⟩
  have n3 : Below w2.heap.size w2 W3 := by rw [hW3]; exact (Gr.below_new _ _).alloc (by simp) _
  have b3 := hb2.trans (n3.mono hb2.size)
  have x3 : Blk W3 w2.heap.size #[Value.int .i64 C.s, Value.slice a1 C.Q.length k1, Value.slice a2 C.M.length k2, Value.slice a3 C.Y.length k3, Value.slice a4 C.G.length k4] 59 := by rw [hW3]; exact Gr.Blk.new0.alloc
  have H3 := hide x3
  have HCC := hide hcc
  have HKK := hide (fun w4 (hb : Below w2.heap.size w2 w4) => hK.below hb (Nat.le_refl _))
  have HN3 := hide n3
  have HB3 := hide b3
  have HB2 := hide hb2
  have hz3 : W3.heap.size = w2.heap.size + 1 + 1 := by rw [hW3]; simp
  have y3 : Blk W3 (w2.heap.size + 1) #[] 93 := by rw [hW3]; exact Gr.Blk.new1
  have hO0 : W3.ownsRow (w2.heap.size + 1) 93 2 (.slice (some ⟨w2.heap.size + 1, 0, none⟩) 0 0) (coupK K (C.M.take 0)).length (Gr.couplesV (coupK K (C.M.take 0))) := own_nil y3 (Nat.le_refl _)
  have HO0 := hide hO0
  have x31 : W3.cell? ⟨w2.heap.size, 2, none⟩ = some (Value.slice a2 C.M.length k2) := x3.cell 2 _ rfl
  clear hd hb2 y3 n3 x3 hcc hK b3 hO0 RO hV1 V1
  rw [hW3] at x31
  go_wp2_with fail
  rw [← hW3]
  clear hW3 x31
  go_loopw [9, 10] (fun v iv wr => ∃ j : Nat, iv = .int .i64 (j : Int) ∧ j ≤ C.M.length ∧ Hid (wr.ownsRow (w2.heap.size + 1) 93 2 v (coupK K (C.M.take j)).length (Gr.couplesV (coupK K (C.M.take j)))) ∧ Hid (Blk wr w2.heap.size #[Value.int .i64 C.s, Value.slice a1 C.Q.length k1, Value.slice a2 C.M.length k2, Value.slice a3 C.Y.length k3, Value.slice a4 C.G.length k4] 59) ∧ Below w2.heap.size w2 wr) (fun _ iv _ => C.M.length - (intOf iv).toNat)
  case atStart => exact ⟨0, rfl, Nat.zero_le _, unhide HO0, unhide H3, unhide HN3⟩
  case round =>
    obtain ⟨j, rfl, hj, HO, HX, hb⟩ := hrel
    clear HO0 H3 HN3
    have q0 : wr.cell? ⟨w2.heap.size, 2, none⟩ = some (Value.slice a2 C.M.length k2) := (unhide HX).cell 2 _ rfl
    by_cases hlt : j < C.M.length
    · have hcc2 := (unhide HCC).2 j hlt
      obtain ⟨b, off, rfl, hbB, c0, c1⟩ := hcc2
      rw [← hb.cell (p := ⟨b, off + j * 2, none⟩) (by simp; omega)] at c0
      rw [← hb.cell (p := ⟨b, off + j * 2 + 1, none⟩) (by simp; omega)] at c1
      obtain ⟨m0, m1, m2, m3⟩ := unhide HMM _ (List.getElem_mem hlt)
      obtain ⟨kA, lA, eA, dA⟩ := unhide HKA _ m0 m1
      obtain ⟨kB, lB, eB, dB⟩ := unhide HKA _ m2 m3
      have hk := unhide HKK wr hb
      obtain ⟨bA, oA, pA, qA, fA⟩ := hk.2 kA lA
      obtain ⟨bB, oB, pB, qB, fB⟩ := hk.2 kB lB
      subst pA
      simp only [Option.some.injEq, Addr.mk.injEq, and_true] at pB
      obtain ⟨rfl, rfl⟩ := pB
      have HS := hide (unhide HSN j hlt)
      have hlen : (coupK K (C.M.take j)).length = j := by rw [unhide HCL, List.length_take]; omega
      have ho := unhide HO
      rw [hlen] at ho
      obtain ⟨ua, uc, rfl⟩ := row_shape0' ho
      rw [← dA] at fA
      rw [← dB] at fB
      rw [eA] at c0
      rw [eB] at c1
      generalize kid K C.M[j].A = x at fA HS
      generalize kid K C.M[j].B = y at fB HS
      have hx0 : (0 : Int) ≤ (j : Int) := by omega
      have hx1 : (j : Int) < (C.M.length : Int) := by omega
      have hzw := hb.size
      have y0 : (0 : Int) ≤ (kA : Int) := by omega
      have y1 : (kA : Int) < (K.length : Int) := by omega
      have y2 : (0 : Int) ≤ (kB : Int) := by omega
      have y3 : (kB : Int) < (K.length : Int) := by omega
      have hxl := (unhide HX).lt
      have hlow : ∀ g, (Value.slice ua j uc).ownBlock = some g → w2.heap.size + 1 ≤ g ∧ g < wr.heap.size := ho.lt
      have OA2 : Hid ((wr.alloc (Obj.cells #[Value.int .i64 x, Value.int .i64 y] 93)).drew.ownsRow (w2.heap.size + 1) 93 2 (.slice ua j uc) j (Gr.couplesV (coupK K (C.M.take j)))) := (ho.alloc _).drew
      have HNW : Hid (∀ j' u, [Value.int .i64 x, Value.int .i64 y][j']? = some u → (wr.alloc (Obj.cells #[Value.int .i64 x, Value.int .i64 y] 93)).drew.cell? ((⟨wr.heap.size, 0, none⟩ : Addr).add j') = some u) := fun j' u hu => World.news_of_block (w := (wr.alloc (Obj.cells #[Value.int .i64 x, Value.int .i64 y] 93))) (cs := #[Value.int .i64 x, Value.int .i64 y]) (t := 93) (fr := (0, 0)) (heap_alloc_new wr _) j' u (by simpa using hu)
      have hjm : j + 1 ≤ maxLen := by unfold maxLen; omega
      have hj16 : (j + 1) * 16 ≤ 140737488355328 := by omega
      have hbs : w2.heap.size + 1 ≤ (wr.alloc (Obj.cells #[Value.int .i64 x, Value.int .i64 y] 93)).drew.heap.size := by show _ ≤ (wr.alloc _).heap.size; simp; omega
      have hhs : (wr.alloc (Obj.cells #[Value.int .i64 x, Value.int .i64 y] 93)).drew.heap.size = wr.heap.size + 1 := by show (wr.alloc _).heap.size = _; simp
      have HXD : Hid (Blk (wr.alloc (Obj.cells #[Value.int .i64 x, Value.int .i64 y] 93)).drew w2.heap.size #[Value.int .i64 C.s, Value.slice a1 C.Q.length k1, Value.slice (some ⟨b, off, none⟩) C.M.length k2, Value.slice a3 C.Y.length k3, Value.slice a4 C.G.length k4] 59) := (unhide HX).below (Gr.below_new wr _).drew
      clear hk dA dB ho HO
      go_wp2_with fail
      go_region_held_law (fun u => u.cell? ⟨w2.heap.size, 2, none⟩ = some (Value.slice (some ⟨b, off, none⟩) C.M.length k2) ∧ u.cell? ⟨bA, oA + kA, none⟩ = some (.int .i64 x) ∧ u.cell? ⟨bA, oA + kB, none⟩ = some (.int .i64 y) ∧ u.cell? ⟨b, off + j * 2, none⟩ = some (.int .i64 (kA : Int)) ∧ u.cell? ⟨b, off + j * 2 + 1, none⟩ = some (.int .i64 (kB : Int)))
        (first | with_reducible exact ⟨j0, j1, j2, j3, j4⟩ | go_keep)
        (first
          | (refine step_append_lies _ (by rfl) _ _ _ (by rfl) (w2.heap.size + 1) 93 i1 _ 2 16 Tryz.underlying38 hi1 hz0 hz1 hz2 rfl (by omega) (.slice ua j uc) j (Gr.couplesV (coupK K (C.M.take j))) (by rfl) (unhide OA2) ⟨wr.heap.size, 0, none⟩ 1 1 [.int .i64 x, .int .i64 y] (by rfl) (by rfl) (unhide HNW) (couple_one' _ _) (by omega) hjm hj16 hbs (wr.heap.size + 1) hhs ?_; intro g cap w4 hown4 hgrow4 hat4 hlt4; have j0 : w4.cell? ⟨w2.heap.size, 2, none⟩ = some (Value.slice (some ⟨b, off, none⟩) C.M.length k2) := (hgrow4.cell_far ⟨w2.heap.size, 2, none⟩ (by rw [hhs]; simp; omega) (fun e => by have := hlow _ e.symm; simp at this; omega)).trans ((Gr.below_new wr _).drew.cell (p := ⟨w2.heap.size, 2, none⟩) (by simp; omega) |>.trans q0); have j1 : w4.cell? ⟨bA, oA + kA, none⟩ = some (.int .i64 x) := (hgrow4.cell_far ⟨bA, oA + kA, none⟩ (by rw [hhs]; simp; omega) (fun e => by have := hlow _ e.symm; simp at this; omega)).trans ((Gr.below_new wr _).drew.cell (p := ⟨bA, oA + kA, none⟩) (by simp; omega) |>.trans fA); have j2 : w4.cell? ⟨bA, oA + kB, none⟩ = some (.int .i64 y) := (hgrow4.cell_far ⟨bA, oA + kB, none⟩ (by rw [hhs]; simp; omega) (fun e => by have := hlow _ e.symm; simp at this; omega)).trans ((Gr.below_new wr _).drew.cell (p := ⟨bA, oA + kB, none⟩) (by simp; omega) |>.trans fB); have j3 : w4.cell? ⟨b, off + j * 2, none⟩ = some (.int .i64 (kA : Int)) := (hgrow4.cell_far ⟨b, off + j * 2, none⟩ (by rw [hhs]; simp; omega) (fun e => by have := hlow _ e.symm; simp at this; omega)).trans ((Gr.below_new wr _).drew.cell (p := ⟨b, off + j * 2, none⟩) (by simp; omega) |>.trans c0); have j4 : w4.cell? ⟨b, off + j * 2 + 1, none⟩ = some (.int .i64 (kB : Int)) := (hgrow4.cell_far ⟨b, off + j * 2 + 1, none⟩ (by rw [hhs]; simp; omega) (fun e => by have := hlow _ e.symm; simp at this; omega)).trans ((Gr.below_new wr _).drew.cell (p := ⟨b, off + j * 2 + 1, none⟩) (by simp; omega) |>.trans c1)))
      all_goals
        have hb4 : Below w2.heap.size w2 w4 := (((hb.alloc hb.size _).drew).grown hgrow4 (by rw [hhs]; omega) (fun k hk => by have := hlow k hk; omega))
        have HX4 := hide ((unhide HXD).grown hgrow4 (fun e => by have := hlow _ e.symm; omega))
        have HO4 : Hid (w4.ownsRow (w2.heap.size + 1) 93 2 (.slice (some ⟨g, 0, none⟩) (j + 1) cap) (coupK K (C.M.take (j + 1))).length (Gr.couplesV (coupK K (C.M.take (j + 1))))) := by
          show World.ownsRow _ _ _ _ _ _ _
          rw [unhide HS, List.length_append, hlen, Gr.couplesV_snoc]
          exact hown4
        clear hown4 hgrow4 hat4 hlt4 j0 j1 j2 j3 j4 q0 fA fB c0 c1 OA2 HNW HS hlow HXD HX
        go_wp2_with fail
        exact ⟨⟨j + 1, by go_num, by omega, unhide HO4, unhide HX4, hb4⟩, by simp [intOf]; omega⟩
    · obtain rfl : j = C.M.length := by omega
      have ho := unhide HO
      rw [unhide HE] at ho
      have hzz : w.heap.size ≤ w2.heap.size + 1 := by have := (unhide HB2).size; omega
      have HD : Hid (Gr.CoOwn wr w.heap.size u9 RM) := Gr.own_lower hzz ho
      clear HO ho
      have HBW : Hid (Below w.heap.size w wr) := by
        have h1 := unhide HB3
        exact (unhide HB2).trans (hb.mono (unhide HB2).size)
      clear HX hb
      go_wp2
      go_ret2
      exact ⟨⟨_, rfl, unhide HD⟩, unhide HBW⟩

end Rg
end Go.Proofs.YtjblkijicfmkgaaGreatDoor

/-
  The ledger, the specification's: with whom an id is.
-/
namespace Go.Proofs.YtjblkijicfmkgaaGreatDoor
namespace Rg
open Go.RowKit
open Gr (Blk Kept Grown)

/-- What WhoWith tells. -/
def whoVal (o : Option (Int × Nat)) : Value := .tuple #[.int .i64 ((o.map (·.1)).getD 0), .int .i64 ((o.map fun p => ((p.2 : Nat) : Int)).getD 0), .bool o.isSome]

theorem whoVal_is (Q : PL) (x : Int) : Value.tuple #[.int .i64 (whoA Q x), .int .i64 (whoN Q x), .bool (whoB Q x)] = whoVal (whoX Q x) := by
  unfold whoA whoN whoB whoVal
  cases whoX Q x <;> rfl

/-- A member's value in a right state. -/
theorem val_right {Q : PL} (hst : stateOk Q = true) (a : Nat) (h : a < 12) : match getP Q (k1 118 a) with | none => whoR Q (a : Int) = none | some v => 0 < v.size ∧ v.size ≤ 1000 ∧ ((byteAt v 0 = 112 ∧ ∃ r, rdD (v.extract 1 v.size) = some r ∧ whoR Q (a : Int) = some r) ∨ (byteAt v 0 ≠ 112 ∧ whoR Q (a : Int) = none)) := by
  obtain ⟨R, hf, I, _⟩ := reg_inv hst
  have hv := I.v a h
  have hw := whoR_is hst I a h
  cases hg : getP Q (k1 118 a) with
  | none =>
    rw [hg] at hv
    simp only at hv ⊢
    rw [hw, hv]
    rfl
  | some v =>
    rw [hg] at hv
    simp only at hv ⊢
    have hsz : v.size ≤ 1000 := by
      obtain ⟨p, hp, _, h3⟩ := get_pair Q _ v hg
      have := map_pair (state_map hst).1 p hp
      rw [← h3]
      omega
    have h0 : 0 < v.size := by
      rcases Nat.eq_zero_or_pos v.size with h0 | h0
      · have hn : v.toList = [] := by
          rw [ByteArray.toList_eq]
          exact List.length_eq_zero_iff.1 (by rw [Array.length_toList]; exact h0)
        unfold standV at hv
        rw [hn] at hv
        rw [if_neg (by decide), if_neg (by decide)] at hv
        have hb : byteAt v 0 = 0 := by unfold byteAt; simp [h0]
        rw [hb, if_neg (by decide)] at hv
        cases hv
      · exact h0
    refine ⟨h0, hsz, ?_⟩
    rcases stand_three hv with ⟨h1, h2, h3⟩ | ⟨h1, h2⟩
    · exact Or.inl ⟨h2, _, h3, by rw [hw, if_pos h1]⟩
    · exact Or.inr ⟨h2, by rw [hw, if_neg h1]⟩

set_option maxRecDepth 100000 in
set_option maxHeartbeats 4000000 in
theorem specWho_any (a : Option Addr) (len cap B : Nat) (Q : PL) (x : Int) (hlen : len ≤ 1048576) (w : World) (hB : B ≤ w.heap.size) (hs : Tr.PairsAt w a len B Q) :
    Calls Tryz.prog 14 #[.slice a len cap, .int .i64 x] w fun e w' => e = .returned (whoVal (whoX Q x)) ∧ Below w.heap.size w w' := by
  have SO := hide (fun w1 (hb : Below w.heap.size w w1) => state_any a len cap B Q hlen w1 (by have := hb.size; omega) (hs.below hb hB))
  have IN := hide (fun w1 => Gr.l01In_is x 0 11 w1)
  have GE := hide (fun k w1 (hb : Below w.heap.size w w1) => get_any a len cap B Q k hlen w1 (hs.below hb hB))
  have CO := hide (fun r w1 (hb : Below w.heap.size w w1) => specCouples_any a len cap B Q r hlen w1 (by have := hb.size; omega) (hs.below hb hB))
  have hV : whoX Q x = match whoR Q x with | none => none | some r => (mateM (roM Q (r : Int)) x).map fun y => (y, r) := rfl
  have hW0 : whoR Q x = if stateOk Q = true ∧ 0 ≤ x ∧ x < 12 then (match getP Q (k1 118 x.toNat) with | none => none | some v => if byteAt v 0 = 112 then rdD (v.extract 1 v.size) else none) else none := rfl
  have HVR := hide (fun (h : stateOk Q = true) a h12 => val_right h a h12)
  have HRL := hide (fun r => roM_length Q r)
  generalize whoX Q x = X at hV ⊢
  cases hst : stateOk Q with
  | false =>
    rw [hst] at SO
    have hX : X = none := by rw [hV, hW0, if_neg (by rw [hst]; simp)]
    subst hX
    clear hs hV hW0 HVR hst
    go_enter Tryz.func14, Tryz.ntmps14
    go_wp2_with fail
    refine (unhide SO w (Below.refl _ _)).mono ?_
    rintro e w1 ⟨rfl, hb1⟩
    go_wp2
    go_ret3
    exact ⟨rfl, hb1⟩
  | true =>
    rw [hst] at SO
    by_cases hr : 0 ≤ x ∧ x < 12
    · obtain ⟨n, rfl⟩ := Int.eq_ofNat_of_zero_le hr.1
      have hn : n < 12 := by omega
      have hti : (decide ((0 : Int) ≤ (n : Int)) && decide ((n : Int) ≤ 11)) = true := by simp; omega
      rw [hti] at IN
      have hvr := unhide HVR hst n hn
      have GK := hide (unhide GE (k1 118 n))
      have TW := hide (fun w1 => two_any n (by omega) w1)
      have htz := tw_size n (by omega)
      have HKK : Hid ((⟨#[118]⟩ ++ tw n : ByteArray) = k1 118 n) := rfl
      generalize getP Q (k1 118 n) = o at hvr GK
      generalize whoR Q (n : Int) = wr0 at hV hvr
      clear hs hW0 HVR hst hr hti GE
      generalize k1 118 n = K1 at GK HKK
      generalize tw n = tn at TW htz HKK
      go_enter Tryz.func14, Tryz.ntmps14
      go_wp2_with fail
      refine (unhide SO w (Below.refl _ _)).mono ?_
      rintro e w1 ⟨rfl, b1⟩
      go_wp2_with fail
      refine (unhide IN _).mono ?_
      rintro e w2 ⟨rfl, rfl⟩
      go_wp2_with fail
      refine (unhide TW _).mono ?_
      rintro e w3 ⟨rfl, hb3⟩
      have b3 := b1.trans (hb3.mono b1.size)
      clear hb3 b1 TW
      have hcat : ¬ 9223372036854775807 < (ByteArray.mk #[118]).size + tn.size := by have : (ByteArray.mk #[118]).size = 1 := rfl; omega
      have GK3 := hide (unhide GK w3 b3)
      rw [← unhide HKK] at GK3
      clear GK
      go_wp2_with fail
      refine (unhide GK3).mono ?_
      rintro e w4 ⟨rfl, rfl⟩
      clear GK3 hcat htz HKK
      cases o with
      | none =>
        simp only at hvr
        subst hvr
        have hX : X = none := hV
        subst hX
        clear hV
        go_wp2
        go_ret3
        exact ⟨rfl, b3⟩
      | some v =>
        simp only at hvr
        obtain ⟨h0, hsz, hc⟩ := hvr
        have e0 := byteAt_eq h0
        rw [e0] at hc
        have hxi : (0 : Int) < (v.size : Int) := by omega
        have hx1 : (1 : Int) ≤ (v.size : Int) := by omega
        have hxz : (v.size : Int) ≤ 1000 := by omega
        rw [show oT (some v) = v from rfl]
        by_cases h112 : (v[0]'h0).toNat = 112
        · have hbq : (((v[0]'h0).toNat : Int) != 112) = false := by rw [h112]; rfl
          obtain ⟨rn, hrd, rfl⟩ : ∃ r, rdD (v.extract 1 v.size) = some r ∧ wr0 = some r := by
            rcases hc with ⟨_, h⟩ | ⟨h, _⟩
            · exact h
            · exact absurd h112 h
          have RD := hide (fun w1 => rd_any (v.extract 1 v.size) w1)
          rw [hrd] at RD
          simp only [] at hV
          have COr := hide (unhide CO (rn : Int))
          have hrl := unhide HRL (rn : Int)
          generalize roM Q (rn : Int) = M at COr hV hrl
          generalize roOk Q (rn : Int) = ok at COr
          clear hc hrd e0 CO HRL
          have HV := hide hV
          clear hV h112
          go_wp2_with fail
          refine (unhide RD _).mono ?_
          rintro e w5 ⟨rfl, hb5⟩
          have b5 := b3.trans (hb5.mono b3.size)
          clear hb5 RD b3
          rw [show oN (some rn) = ((rn : Nat) : Int) from rfl]
          go_wp2_with fail
          refine (unhide COr w5 b5).mono ?_
          rintro e w6 ⟨⟨d, rfl, hd⟩, hb6⟩
          have b6 := b5.trans (hb6.mono b5.size)
          obtain ⟨ma, mc, rfl, hM⟩ := hd.at
          have HMM := hide hM.2
          have HST := hide (fun j h => mateM_step M j h (n : Int))
          have H0 : Hid (mateM M (n : Int) = mateM (M.drop 0) (n : Int)) := rfl
          have HE : Hid (mateM (M.drop M.length) (n : Int) = none) := by show _ = _; rw [List.drop_length]; rfl
          generalize mateM M (n : Int) = R at HV H0
          clear hd hM hb6 b5 COr
          go_wp2_with fail
          go_loop [13] (fun iv => ∃ j : Nat, iv = .int .i64 (j : Int) ∧ j ≤ M.length ∧ Hid (R = mateM (M.drop j) (n : Int))) (fun iv => M.length - (intOf iv).toNat)
          case atStart => exact ⟨0, rfl, Nat.zero_le _, unhide H0⟩
          case round =>
            obtain ⟨j, rfl, hj, HR⟩ := hrel
            clear H0
            by_cases hlt : j < M.length
            · obtain ⟨b, off, rfl, hbB, d0, d1⟩ := unhide HMM j hlt
              have HR2 := hide ((unhide HR).trans (unhide HST j hlt))
              generalize M[j] = y at d0 d1 HR2
              obtain ⟨ya, yb⟩ := y
              simp only at d0 d1 HR2
              have hj1 : (j : Int) < (M.length : Int) := by omega
              have hj0 : (0 : Int) ≤ (j : Int) := by omega
              by_cases hA : ya = (n : Int)
              · have hR : R = some yb := by rw [unhide HR2, if_pos hA]
                subst hR
                have hX : X = some (yb, rn) := unhide HV
                subst hX
                have h1 : (ya == (n : Int)) = true := by rw [hA]; simp
                clear HR HR2 hA HV
                go_wp2
                go_ret3
                exact ⟨rfl, b6⟩
              · have h1 : (ya == (n : Int)) = false := by simp; exact hA
                by_cases hB2 : yb = (n : Int)
                · have hR : R = some ya := by rw [unhide HR2, if_neg hA, if_pos hB2]
                  subst hR
                  have hX : X = some (ya, rn) := unhide HV
                  subst hX
                  have h2 : (yb == (n : Int)) = true := by rw [hB2]; simp
                  clear HR HR2 hA hB2 HV
                  go_wp2
                  go_ret3
                  exact ⟨rfl, b6⟩
                · have h2 : (yb == (n : Int)) = false := by simp; exact hB2
                  have HR3 : Hid (R = mateM (M.drop (j + 1)) (n : Int)) := by show _ = _; rw [unhide HR2, if_neg hA, if_neg hB2]
                  clear HR HR2 hA hB2
                  go_wp2_with fail
                  exact ⟨⟨j + 1, by go_num, by omega, unhide HR3⟩, by simp [intOf]; omega⟩
            · obtain rfl : j = M.length := by omega
              have hR : R = none := (unhide HR).trans (unhide HE)
              subst hR
              have hX : X = none := unhide HV
              subst hX
              clear HV HR
              go_wp2
              go_ret3
              exact ⟨rfl, b6⟩
        · have hbq : (((v[0]'h0).toNat : Int) != 112) = true := by rw [bne_iff_ne]; omega
          have hwn : wr0 = none := by
            rcases hc with ⟨h, _⟩ | ⟨_, h⟩
            · exact absurd h h112
            · exact h
          subst hwn
          have hX : X = none := hV
          subst hX
          clear hV hc e0 h112
          go_wp2
          go_ret3
          exact ⟨rfl, b3⟩
    · have hX : X = none := by rw [hV, hW0, if_neg (by rintro ⟨_, h⟩; exact hr h)]
      subst hX
      have hti : (decide ((0 : Int) ≤ x) && decide (x ≤ 11)) = false := by simp; omega
      rw [hti] at IN
      clear hs hV hW0 HVR hst hr hti
      go_enter Tryz.func14, Tryz.ntmps14
      go_wp2_with fail
      refine (unhide SO w (Below.refl _ _)).mono ?_
      rintro e w1 ⟨rfl, b1⟩
      go_wp2_with fail
      refine (unhide IN _).mono ?_
      rintro e w2 ⟨rfl, rfl⟩
      go_wp2
      go_ret3
      exact ⟨rfl, b1⟩

end Rg
end Go.Proofs.YtjblkijicfmkgaaGreatDoor
