/-
 RhE, Rg3, Rg4, RgM, Rh0, Rh1, Rh2.
-/
import Derived.Test.YtihnaddfpmjpaaaGreatDoorJ20
import Derived.Test.YtihnaddfpmjpaaaGreatDoorJ18
import Derived.Test.YtihnaddfpmjpaaaGreatDoorJ23
import Derived.Test.YtihnaddfpmjpaaaGreatDoorJ14
import Derived.Test.YtihnaddfpmjpaaaGreatDoorJ6
import Derived.Test.YtihnaddfpmjpaaaGreatDoorJ39
namespace Go.Proofs.YtihnaddfpmjpaaaGreatDoor
namespace Rg
open Go.RowKit
def joined (R : Rgs) (i : Int) : Bool := decide (0 ≤ i) && (decide (i < 12) && decide ((R.mem i.toNat).1 ≠ 0))
def lkOk (R : Rgs) (a b : Nat) : Bool := match R.lnk a b with | none => true | some (x, y, z) => joined R a && (joined R b && (decide (x ≤ 50) && (decide (y ≤ 50) && decide (z ≤ 50))))
def linksOk (R : Rgs) : Bool := (List.range 12).all fun a => (List.range 12).all fun b => lkOk R a b
theorem linksOk_iff (R : Rgs) : linksOk R = true ↔ ∀ a, a < 12 → ∀ b, b < 12 → lkOk R a b = true := by
  unfold linksOk
  simp only [List.all_eq_true, List.mem_range]
def poolR (R : Rgs) (K : List Int) : Bool := decide (∀ i ∈ K, joined R i = true) && (decide (K.length ≤ 9) && Gr.chainFrom none K)
def rdOk (R : Rgs) (x : List Int × List ByteArray) : Bool := (decide (Gr.partsT (joinB x.2) = x.2) && Gr.rcOk (joinB x.2)) && (decide ((Gr.rcV (joinB x.2)).s = (x.1.length : Int)) && poolR R x.1)
def roundsR (R : Rgs) : Bool := decide (∀ x ∈ R.rds, rdOk R x = true) && decide (R.rds.length ≤ 6)
def membersOk (R : Rgs) : Bool := (List.range 12).all fun a => !(decide ((R.mem a).1 = 3) && !decide ((R.mem a).2 < R.rds.length))
theorem membersOk_iff (R : Rgs) : membersOk R = true ↔ ∀ a, a < 12 → (R.mem a).1 = 3 → (R.mem a).2 < R.rds.length := by
  unfold membersOk
  simp only [List.all_eq_true, List.mem_range, Bool.not_eq_true', Bool.and_eq_false_iff, decide_eq_false_iff_not, Bool.not_eq_false', decide_eq_true_eq]
  constructor
  · intro h a ha h3
    rcases h a ha with h | h
    · exact absurd h3 h
    · exact h
  · intro h a ha
    by_cases h3 : (R.mem a).1 = 3
    · exact Or.inr (h a ha h3)
    · exact Or.inl h3
def checks (R : Rgs) : Bool := linksOk R && (roundsR R && membersOk R)
def regOk (Q : PL) : Bool := decide (Tr.MapR Q) && (match regFold R0 Q with | none => false | some R => checks R)
def whoTo (f : Nat → Bool) (n : Nat) : List Int := ((List.range n).filter f).map fun (i : Nat) => (i : Int)
theorem who_succ (f : Nat → Bool) (n : Nat) : whoTo f (n + 1) = if f n = true then whoTo f n ++ [(n : Int)] else whoTo f n := by
  unfold whoTo
  rw [List.range_succ, List.filter_append, List.map_append]
  by_cases h : f n = true
  · simp [h]
  · simp [h]
def isIn (R : Rgs) (a : Nat) : Bool := joined R (a : Int)
end Rg
end Go.Proofs.YtihnaddfpmjpaaaGreatDoor
namespace Go.Proofs.YtihnaddfpmjpaaaGreatDoor
namespace Rg
open Go.RowKit
open Gr (Blk)
def vk (x : Int) : ByteArray := ByteArray.mk #[118] ++ tw x.toNat
def aheadI : Option Int → Int → Bool
  | none, _ => true
  | some p, x => decide (p < x)
def poolOk (Q : PL) : Option Int → List Int → Bool
  | _, [] => true
  | p, x :: r => decide (x < 12) && ((getP Q (vk x)).isSome && (aheadI p x && poolOk Q (some x) r))
def prevI (P : List Int) (j : Nat) : Option Int := if j = 0 then none else P[j - 1]?
theorem poolOk_step (Q : PL) (P : List Int) (j : Nat) (h : j < P.length) : poolOk Q (prevI P j) (P.drop j) = (decide (P[j] < 12) && ((getP Q (vk P[j])).isSome && (aheadI (prevI P j) P[j] && poolOk Q (prevI P (j + 1)) (P.drop (j + 1))))) := by
  rw [List.drop_eq_getElem_cons h, poolOk]
  have : prevI P (j + 1) = some P[j] := by
    unfold prevI
    rw [if_neg (by omega), Nat.add_sub_cancel, List.getElem?_eq_getElem h]
  rw [this]
def rk (r i : Nat) : ByteArray := (ByteArray.mk #[114] ++ tw r) ++ tw i
def partsOk (Q : PL) (r : Nat) : Nat → List ByteArray → Bool
  | _, [] => true
  | i, p :: L => decide (i ≤ 99) && ((getP Q (rk r i)).isSome && (((oT (getP Q (rk r i))).toList == p.toList) && partsOk Q r (i + 1) L))
theorem partsOk_step (Q : PL) (r : Nat) (L : List ByteArray) (j : Nat) (h : j < L.length) : partsOk Q r j (L.drop j) = (decide (j ≤ 99) && ((getP Q (rk r j)).isSome && (((oT (getP Q (rk r j))).toList == L[j].toList) && partsOk Q r (j + 1) (L.drop (j + 1))))) := by
  rw [List.drop_eq_getElem_cons h, partsOk]
def roundOk (Q : PL) (r : Nat) : Bool :=
  decide ((poolP Q r).length ≤ 9) && (poolOk Q none (poolP Q r) && (partsOk Q r 0 (Gr.partsT (textP Q r)) && (Gr.rcOk (textP Q r) && (!(getP Q (rk r (Gr.partsT (textP Q r)).length)).isSome && decide ((Gr.rcV (textP Q r)).s = ((poolP Q r).length : Int))))))
theorem pool_bytes (Q : PL) (r : Nat) : ∀ x ∈ poolP Q r, 0 ≤ x ∧ x ≤ 255 := by
  intro x hx
  obtain ⟨b, _, rfl⟩ := List.mem_map.1 hx
  have := UInt8.toNat_lt b
  omega
theorem textF_size (r : Nat) : ∀ (Q : PL) (s : ByteArray), (textF r s Q).size ≤ s.size + Tr.totP Q
  | [], s => by simp [textF]
  | q :: L, s => by
    have h := textF_size r L (if isR r q.1 = true then s ++ q.2 else s)
    rw [textF]
    unfold Tr.totP at *
    rw [List.map_cons, List.sum_cons]
    split at h
    · rename_i hq
      rw [if_pos hq]
      rw [ByteArray.size_append] at h
      omega
    · rename_i hq
      rw [if_neg hq]
      omega
theorem text_size (Q : PL) (r : Nat) : (textP Q r).size ≤ Tr.totP Q := by
  have := textF_size r Q ⟨#[]⟩
  unfold textP
  have h0 : (ByteArray.mk #[]).size = 0 := rfl
  omega
set_option maxRecDepth 100000 in
set_option maxHeartbeats 8000000 in
theorem round_any (a : Option Addr) (len cap B : Nat) (Q : PL) (r : Nat) (hr : r ≤ 1000) (hlen : len ≤ 1048576) (htot : Tr.totP Q ≤ 100000) (w : World) (hB : B ≤ w.heap.size) (hs : Tr.PairsAt w a len B Q) :
    Calls Tryz.prog 70 #[.slice a len cap, .int .i64 (r : Int)] w fun e w' => e = .returned (.bool (roundOk Q r)) ∧ Below w.heap.size w w' := by
  have HG := hide (fun k w1 (hb : Below w.heap.size w w1) => get_any a len cap B Q k (by omega) w1 (hs.below hb hB))
  have PO := hide (fun w1 (hb : Below w.heap.size w w1) => pool_any a len cap B Q r (by omega) (by omega) (by omega) w1 (by have := hb.size; omega) (hs.below hb hB))
  have TX := hide (fun w1 (hb : Below w.heap.size w w1) => text_any a len cap B Q r (by omega) (by omega) (by omega) w1 (by have := hb.size; omega) (hs.below hb hB))
  have TW := hide (fun (n : Nat) (h : n ≤ 1000000) w1 => two_any n h w1)
  have TS := hide (fun (n : Nat) (h : n ≤ 1000000) => tw_size n (by omega))
  have htz : (textP Q r).size ≤ 1048576 := Nat.le_trans (text_size Q r) (by omega)
  have CP := hide (fun w1 => Gr.specParts_any (textP Q r) htz w1)
  have RC := hide (fun w1 => Gr.specReadCert_any (textP Q r) htz w1)
  have HPB := hide (pool_bytes Q r)
  have hPL : (Gr.partsT (textP Q r)).length ≤ 100000 := Nat.le_trans (Gr.parts_length _) (Nat.le_trans (text_size Q r) htot)
  have HX : Hid (roundOk Q r = (decide ((poolP Q r).length ≤ 9) && (poolOk Q none (poolP Q r) && (partsOk Q r 0 (Gr.partsT (textP Q r)) && (Gr.rcOk (textP Q r) && (!(getP Q (rk r (Gr.partsT (textP Q r)).length)).isSome && decide ((Gr.rcV (textP Q r)).s = ((poolP Q r).length : Int)))))))) := rfl
  generalize roundOk Q r = X at HX ⊢
  generalize poolP Q r = P at PO HPB HX
  generalize Gr.partsT (textP Q r) = L at CP hPL HX
  generalize Gr.rcOk (textP Q r) = ok at RC HX
  generalize Gr.rcV (textP Q r) = cv at RC HX
  generalize textP Q r = T at TX CP RC
  clear hs htz
  go_enter Tryz.func70, Tryz.ntmps70
  go_wp2_with fail
  refine (unhide PO w (Below.refl _ _)).mono ?_
  rintro e w1 ⟨⟨d, rfl, hO⟩, b1⟩
  obtain ⟨ap, cp, rfl, hIP⟩ := hO.at
  have HIP := hide hIP
  clear hO hIP
  by_cases h9 : P.length ≤ 9
  · rw [decide_eq_true h9, Bool.true_and] at HX
    have h9i : ¬ (9 : Int) < (P.length : Int) := by omega
    have HP0 : Hid (poolOk Q none P = poolOk Q (prevI P 0) (P.drop 0)) := rfl
    have HPS := hide (fun j h => poolOk_step Q P j h)
    generalize poolOk Q none P = pk at HX HP0
    go_wp2_with fail
    go_loopw [6] (fun i wr => ∃ j : Nat, i = .int .i64 (j : Int) ∧ j ≤ P.length ∧ Hid (pk = poolOk Q (prevI P j) (P.drop j)) ∧ Below w1.heap.size w1 wr) (fun i _ => P.length - (intOf i).toNat)
    case atStart => exact ⟨0, rfl, Nat.zero_le _, unhide HP0, Below.refl _ _⟩
    case round =>
      obtain ⟨j, rfl, hj, HJ, hb⟩ := hrel
      have bw := b1.trans (hb.mono b1.size)
      by_cases hlt : j < P.length
      · obtain ⟨b, off, rfl, hbB, d0⟩ := ((unhide HIP).below hb (Nat.le_refl _)).2 j hlt
        have HJ2 := hide ((unhide HJ).trans (unhide HPS j hlt))
        have hxb := unhide HPB P[j] (List.getElem_mem hlt)
        have HPV : Hid (∀ i, j = i + 1 → ∃ p, prevI P j = some p ∧ wr.cell? ⟨b, off + i, none⟩ = some (.int .i64 p)) := fun i hi => by
          obtain ⟨b', off', e', _, c'⟩ := ((unhide HIP).below hb (Nat.le_refl _)).2 i (by omega)
          simp at e'
          obtain ⟨rfl, rfl⟩ := e'
          exact ⟨P[i]'(by omega), by unfold prevI; rw [if_neg (by omega), show j - 1 = i by omega, List.getElem?_eq_getElem (by omega)], c'⟩
        have HPZ : Hid (j = 0 → prevI P j = none) := fun h => by unfold prevI; rw [if_pos h]
        generalize prevI P j = pv at HJ2 HPV HPZ
        generalize P[j] = x at d0 HJ2 hxb
        obtain ⟨xn, rfl⟩ := Int.eq_ofNat_of_zero_le hxb.1
        have hxn : xn ≤ 255 := by omega
        have hz : ¬ 9223372036854775807 < (ByteArray.mk #[118]).size + (tw xn).size := by have := unhide TS xn (by omega); have : (ByteArray.mk #[118]).size = 1 := rfl; omega
        have HTW := hide (fun w2 => unhide TW xn (by omega) w2)
        have HK : Hid (ByteArray.mk #[118] ++ tw xn = vk (xn : Int)) := by show _ = _; unfold vk; rw [Int.toNat_natCast]
        go_wp2_with fail
        refine (unhide HTW _).mono ?_
        rintro e w2 ⟨rfl, hb2⟩
        have bw2 := bw.trans (hb2.mono bw.size)
        go_wp2_with fail
        rw [unhide HK]
        refine (unhide HG (vk (xn : Int)) w2 bw2).mono ?_
        rintro e w3 ⟨rfl, rfl⟩
        generalize (getP Q (vk (xn : Int))).isSome = has at HJ2 ⊢
        generalize oT (getP Q (vk (xn : Int))) = tv
        have hbb : b < w3.heap.size := by have := hb.size; have := hb2.size; omega
        have E0 : ∀ d : Gr.Grown w3.heap.size w3, d.w.cell? ⟨b, off + j, none⟩ = some (.int .i64 (xn : Int)) := fun d => d.cell hbb ((hb2.cell (p := ⟨b, off + j, none⟩) (by simp; have := hb.size; omega)).trans d0)
        have hjn : (j : Int) < ((P.length : Nat) : Int) := by omega
        by_cases h12 : 12 ≤ xn
        · have hX : X = false := by rw [unhide HX, unhide HJ2, decide_eq_false (by omega), Bool.false_and, Bool.false_and]
          have h12i : (12 : Int) ≤ (xn : Int) := by omega
          subst hX
          clear d0 hxb
          go_wp2_with fail
          refine Gr.wp_region_grown w3.heap.size (by kernel_rfl) (by kernel_rfl) ?_
          repeat (go_big_quiet_step (fail))
          refine wpQuiet_nil ?_
          rintro w5 ⟨d5, rfl⟩
          obtain ⟨W5, hb5⟩ := d5
          dsimp only
          have bw5 := bw2.trans (hb5.mono bw2.size)
          clear E0
          go_wp2
          go_ret
          exact ⟨rfl, bw5⟩
        · have h12i : ¬ (12 : Int) ≤ (xn : Int) := by omega
          have hd12 : decide (12 ≤ xn) = false := decide_eq_false h12
          have hd12i : decide ((12 : Int) ≤ (xn : Int)) = false := decide_eq_false h12i
          rw [decide_eq_true (show (xn : Int) < 12 by omega), Bool.true_and] at HJ2
          cases has with
          | false =>
            have hX : X = false := by rw [unhide HX, unhide HJ2, Bool.false_and, Bool.false_and]
            subst hX
            clear d0 hxb h12
            go_wp2_with fail
            refine Gr.wp_region_grown w3.heap.size (by kernel_rfl) (by kernel_rfl) ?_
            repeat (go_big_quiet_step (fail))
            refine wpQuiet_nil ?_
            rintro w5 ⟨d5, rfl⟩
            obtain ⟨W5, hb5⟩ := d5
            dsimp only
            have bw5 := bw2.trans (hb5.mono bw2.size)
            clear E0
            go_wp2
            go_ret
            exact ⟨rfl, bw5⟩
          | true =>
            rw [Bool.true_and] at HJ2
            rcases Nat.eq_zero_or_pos j with hj0 | hj0
            · rw [unhide HPZ hj0, aheadI, Bool.true_and] at HJ2
              subst hj0
              have E2 : ∀ d : Gr.Grown w3.heap.size w3, d.w.cell? ⟨b, off, none⟩ = some (.int .i64 (xn : Int)) := fun d => by have h := E0 d; rwa [Nat.add_zero] at h
              clear d0 hxb h12
              go_wp2_with fail
              refine Gr.wp_region_grown w3.heap.size (by kernel_rfl) (by kernel_rfl) ?_
              repeat (go_big_quiet_step (fail))
              refine wpQuiet_nil ?_
              rintro w5 ⟨d5, rfl⟩
              obtain ⟨W5, hb5⟩ := d5
              dsimp only
              have bw5 := hb.trans ((hb2.trans (hb5.mono hb2.size)).mono hb.size)
              clear E0 E2
              go_wp2_with fail
              exact ⟨⟨1, rfl, by omega, unhide HJ2, bw5⟩, by simp [intOf]; omega⟩
            · obtain ⟨i, rfl⟩ : ∃ i, j = i + 1 := ⟨j - 1, by omega⟩
              obtain ⟨p, hp, cpv⟩ := unhide HPV i rfl
              rw [hp, aheadI] at HJ2
              have E1 : ∀ d : Gr.Grown w3.heap.size w3, d.w.cell? ⟨b, off + i, none⟩ = some (.int .i64 p) := fun d => d.cell hbb ((hb2.cell (p := ⟨b, off + i, none⟩) (by simp; have := hb.size; omega)).trans cpv)
              have hwi : IntKind.i64.wrap ((i : Int) + 1 - 1) = (i : Int) := by rw [Int.add_sub_cancel]; exact IntWalk.i64_in _ ⟨by omega, by omega⟩
              have hi1 : (0 : Int) < (i : Int) + 1 := by omega
              have hd1 : decide ((0 : Int) < (i : Int) + 1) = true := decide_eq_true hi1
              have hd2 : decide (0 < i + 1) = true := by simp
              have hin : (i : Int) < ((P.length : Nat) : Int) := by omega
              by_cases hpx : p < (xn : Int)
              · rw [decide_eq_true hpx, Bool.true_and] at HJ2
                have hpx2 : ¬ (xn : Int) ≤ p := by omega
                have hd3 : decide ((xn : Int) ≤ p) = false := decide_eq_false hpx2
                clear d0 hxb h12 hp cpv
                go_wp2_with fail
                refine Gr.wp_region_grown w3.heap.size (by kernel_rfl) (by kernel_rfl) ?_
                repeat (go_big_quiet_step (fail))
                refine wpQuiet_nil ?_
                rintro w5 ⟨d5, rfl⟩
                obtain ⟨W5, hb5⟩ := d5
                dsimp only
                have bw5 := hb.trans ((hb2.trans (hb5.mono hb2.size)).mono hb.size)
                clear E0 E1
                go_wp2_with fail
                exact ⟨⟨i + 1 + 1, by go_num, by omega, unhide HJ2, bw5⟩, by simp [intOf]; omega⟩
              · have hX : X = false := by rw [unhide HX, unhide HJ2, decide_eq_false hpx, Bool.false_and, Bool.false_and]
                have hpx2 : (xn : Int) ≤ p := by omega
                subst hX
                clear d0 hxb h12 hp cpv
                go_wp2_with fail
                refine Gr.wp_region_grown w3.heap.size (by kernel_rfl) (by kernel_rfl) ?_
                repeat (go_big_quiet_step (fail))
                refine wpQuiet_nil ?_
                rintro w5 ⟨d5, rfl⟩
                obtain ⟨W5, hb5⟩ := d5
                dsimp only
                have bw5 := bw2.trans (hb5.mono bw2.size)
                clear E0 E1
                go_wp2
                go_ret
                exact ⟨rfl, bw5⟩
      · have hpk : pk = true := by rw [unhide HJ, List.drop_eq_nil_of_le (by omega)]; cases prevI P j <;> rfl
        rw [hpk, Bool.true_and] at HX
        clear HJ HP0 HPS hpk
        go_wp2_with fail
        refine (unhide TX wr bw).mono ?_
        rintro e w4 ⟨rfl, hb4⟩
        have b4 := bw.trans (hb4.mono bw.size)
        go_wp2_with fail
        refine (unhide CP w4).mono ?_
        rintro e w5 ⟨⟨dL, rfl, hOL⟩, hb5⟩
        obtain ⟨aL, cL, rfl, hTL⟩ := hOL.at
        have HTL := hide hTL
        have b5 := b4.trans (hb5.mono b4.size)
        have HPS2 := hide (fun j h => partsOk_step Q r L j h)
        have HP0 : Hid (partsOk Q r 0 L = partsOk Q r 0 (L.drop 0)) := rfl
        generalize partsOk Q r 0 L = pk2 at HX HP0
        have HTWr := hide (fun w2 => unhide TW r (by omega) w2)
        have hzr : ¬ 9223372036854775807 < (ByteArray.mk #[114]).size + (tw r).size := by have := unhide TS r (by omega); have : (ByteArray.mk #[114]).size = 1 := rfl; omega
        have hrs : (ByteArray.mk #[114] ++ tw r).size ≤ 22 := by rw [ByteArray.size_append]; have := unhide TS r (by omega); have : (ByteArray.mk #[114]).size = 1 := rfl; omega
        clear hOL hTL hb4 hb5 TX CP PO
        go_wp2_with fail
        go_loopw [11] (fun i wr => ∃ j : Nat, i = .int .i64 (j : Int) ∧ j ≤ L.length ∧ Hid (pk2 = partsOk Q r j (L.drop j)) ∧ Below w5.heap.size w5 wr) (fun i _ => L.length - (intOf i).toNat)
        case atStart => exact ⟨0, rfl, Nat.zero_le _, unhide HP0, Below.refl _ _⟩
        case round =>
          obtain ⟨j, rfl, hj, HJ, hb⟩ := hrel
          have bw := b5.trans (hb.mono b5.size)
          by_cases hlt : j < L.length
          · obtain ⟨b, off, rfl, hbB, d0⟩ := ((unhide HTL).below hb (Nat.le_refl _)).2 j hlt
            have HJ2 := hide ((unhide HJ).trans (unhide HPS2 j hlt))
            generalize L[j] = p at d0 HJ2
            have HTW2 := hide (fun w2 => unhide TW j (by omega) w2)
            have hz2 : ¬ 9223372036854775807 < (ByteArray.mk #[114] ++ tw r).size + (tw j).size := by have := unhide TS j (by omega); omega
            have HK : Hid ((ByteArray.mk #[114] ++ tw r) ++ tw j = rk r j) := rfl
            go_wp2_with fail
            refine (unhide HTWr _).mono ?_
            rintro e w6 ⟨rfl, hb6⟩
            go_wp2_with fail
            refine (unhide HTW2 _).mono ?_
            rintro e w7 ⟨rfl, hb7⟩
            have hb67 := hb6.trans (hb7.mono hb6.size)
            have b7 := bw.trans (hb67.mono bw.size)
            go_wp2_with fail
            rw [unhide HK]
            refine (unhide HG (rk r j) w7 b7).mono ?_
            rintro e w8 ⟨rfl, rfl⟩
            have d8 := (hb67.cell (p := ⟨b, off + j, none⟩) (by simp; have := hb.size; omega)).trans d0
            have hb8 := hb.trans (hb67.mono hb.size)
            have hjn : (j : Int) < ((L.length : Nat) : Int) := by omega
            generalize (getP Q (rk r j)).isSome = has at HJ2 ⊢
            generalize oT (getP Q (rk r j)) = tv at HJ2 ⊢
            clear d0 hb6 hb7 hb67
            by_cases h99 : j ≤ 99
            · rw [decide_eq_true h99, Bool.true_and] at HJ2
              have h99i : ¬ (99 : Int) < (j : Int) := by omega
              clear h99
              cases has with
              | false =>
                have hX : X = false := by rw [unhide HX, unhide HJ2, Bool.false_and, Bool.false_and]
                subst hX
                go_wp2
                go_ret
                exact ⟨rfl, b7⟩
              | true =>
                rw [Bool.true_and] at HJ2
                cases hq : (tv.toList == p.toList)
                · have hX : X = false := by rw [unhide HX, unhide HJ2, hq, Bool.false_and, Bool.false_and]
                  subst hX
                  go_wp2
                  go_ret
                  exact ⟨rfl, b7⟩
                · rw [hq, Bool.true_and] at HJ2
                  go_wp2_with fail
                  exact ⟨⟨j + 1, by go_num, by omega, unhide HJ2, hb8⟩, by simp [intOf]; omega⟩
            · have hX : X = false := by rw [unhide HX, unhide HJ2, decide_eq_false h99, Bool.false_and, Bool.false_and]
              subst hX
              have h99i : (99 : Int) < (j : Int) := by omega
              clear h99
              go_wp2
              go_ret
              exact ⟨rfl, b7⟩
          · have hpk : pk2 = true := by rw [unhide HJ, List.drop_eq_nil_of_le (by omega)]; rfl
            rw [hpk, Bool.true_and] at HX
            have HTW2 := hide (fun w2 => unhide TW L.length (by omega) w2)
            have hz2 : ¬ 9223372036854775807 < (ByteArray.mk #[114] ++ tw r).size + (tw L.length).size := by have := unhide TS L.length (by omega); omega
            have HK : Hid ((ByteArray.mk #[114] ++ tw r) ++ tw L.length = rk r L.length) := rfl
            clear HJ HP0 HPS2 hpk
            go_wp2_with fail
            refine (unhide HTWr _).mono ?_
            rintro e w6 ⟨rfl, hb6⟩
            go_wp2_with fail
            refine (unhide HTW2 _).mono ?_
            rintro e w7 ⟨rfl, hb7⟩
            have hb67 := hb6.trans (hb7.mono hb6.size)
            have b7 := bw.trans (hb67.mono bw.size)
            go_wp2_with fail
            rw [unhide HK]
            refine (unhide HG (rk r L.length) w7 b7).mono ?_
            rintro e w8 ⟨rfl, rfl⟩
            generalize (getP Q (rk r L.length)).isSome = more at HX ⊢
            generalize oT (getP Q (rk r L.length)) = tv
            go_wp2_with fail
            refine (unhide RC _).mono ?_
            rintro e w9 ⟨⟨dc, rfl, hCe⟩, hb9⟩
            obtain ⟨q0, g0, q1, g1, q2, g2, q3, g3, rfl⟩ := hCe.shape
            have b9 := b7.trans (hb9.mono b7.size)
            clear hCe hb9 RC
            generalize cv.s = cs at HX ⊢
            generalize cv.Q.length = l0
            generalize cv.M.length = l1
            generalize cv.Y.length = l2
            generalize cv.G.length = l3
            cases ok with
            | false =>
              have hX : X = false := by rw [unhide HX, Bool.false_and]
              subst hX
              go_wp2
              go_ret
              exact ⟨rfl, b9.alloc b9.size _⟩
            | true =>
              rw [Bool.true_and] at HX
              cases more with
              | true =>
                have hX : X = false := by rw [unhide HX]; rfl
                subst hX
                go_wp2
                go_ret
                exact ⟨rfl, b9.alloc b9.size _⟩
              | false =>
                have hX : X = decide (cs = (P.length : Int)) := by rw [unhide HX]; rfl
                by_cases hcs : cs = (P.length : Int)
                · have hcb : (cs == (P.length : Int)) = true := by rw [beq_iff_eq]; exact hcs
                  obtain rfl : X = true := by rw [hX, decide_eq_true hcs]
                  clear hX hcs
                  go_wp2
                  go_ret
                  exact ⟨rfl, b9.alloc b9.size _⟩
                · have hcb : (cs == (P.length : Int)) = false := by rw [beq_eq_false_iff_ne]; exact hcs
                  obtain rfl : X = false := by rw [hX, decide_eq_false hcs]
                  clear hX hcs
                  go_wp2
                  go_ret
                  exact ⟨rfl, b9.alloc b9.size _⟩
  · have hX : X = false := by rw [unhide HX, decide_eq_false h9, Bool.false_and]
    subst hX
    have h9i : (9 : Int) < (P.length : Int) := by omega
    go_wp2
    go_ret
    exact ⟨rfl, b1⟩
def keysOk (Q : PL) (n : Nat) : PL → Bool
  | [] => true
  | q :: r => keyOk Q n q.1 q.2 && keysOk Q n r
def roundsOk (Q : PL) : Nat → Nat → Bool
  | 0, _ => true
  | f + 1, r => roundOk Q r && roundsOk Q f (r + 1)
def partsSum (Q : PL) : Nat → Nat → Nat
  | 0, _ => 0
  | f + 1, r => (Gr.partsT (textP Q r)).length + partsSum Q f (r + 1)
def rCount : PL → Nat
  | [] => 0
  | q :: L => (if byteAt q.1 0 = 114 then 1 else 0) + rCount L
def stateOk (Q : PL) : Bool :=
  decide (Tr.MapR Q) && (decide (rnds Q ≤ 6) && (keysOk Q (rnds Q) Q && (roundsOk Q (rnds Q) 0 && decide (rCount Q = partsSum Q (rnds Q) 0))))
theorem map_pair {Q : PL} (h : Tr.MapR Q) : ∀ q ∈ Q, 1 ≤ q.1.size ∧ q.1.size ≤ 8 ∧ q.2.size ≤ 40 := by
  intro q hq
  obtain ⟨i, hi, rfl⟩ := List.mem_iff_getElem.1 hq
  have h1 := h.2 i hi
  unfold Tr.pairOk at h1
  simp only [Bool.and_eq_true, decide_eq_true_eq] at h1
  omega
theorem tot_le : ∀ (Q : PL), (∀ q ∈ Q, q.1.size ≤ 8 ∧ q.2.size ≤ 40) → Tr.totP Q ≤ 48 * Q.length
  | [], _ => by simp [Tr.totP]
  | q :: r, h => by
    have h1 := tot_le r (fun x hx => h x (by simp [hx]))
    have h2 := h q (by simp)
    unfold Tr.totP at *
    rw [List.map_cons, List.sum_cons, List.length_cons]
    omega
theorem map_tot {Q : PL} (h : Tr.MapR Q) : Tr.totP Q ≤ 100000 := by
  have h1 := tot_le Q (fun q hq => (map_pair h q hq).2)
  have h2 := h.1
  omega
theorem keys_step (Q : PL) (n : Nat) (L : PL) (j : Nat) (h : j < L.length) : keysOk Q n (L.drop j) = (keyOk Q n L[j].1 L[j].2 && keysOk Q n (L.drop (j + 1))) := by
  rw [List.drop_eq_getElem_cons h, keysOk]
theorem count_step (L : PL) (j : Nat) (h : j < L.length) : rCount (L.drop j) = (if byteAt L[j].1 0 = 114 then 1 else 0) + rCount (L.drop (j + 1)) := by
  rw [List.drop_eq_getElem_cons h, rCount]
set_option maxRecDepth 100000 in
set_option maxHeartbeats 4000000 in
theorem state_any (a : Option Addr) (len cap B : Nat) (Q : PL) (hlen : len ≤ 1048576) (w : World) (hB : B ≤ w.heap.size) (hs : Tr.PairsAt w a len B Q) :
    Calls Tryz.prog 36 #[.slice a len cap] w fun e w' => e = .returned (.bool (stateOk Q)) ∧ Below w.heap.size w w' := by
  have MO := hide (fun w1 (hb : Below w.heap.size w w1) => Tr.specMap_any a len cap B Q hlen w1 (by have := hb.size; omega) (hs.below hb hB))
  have HX : Hid (stateOk Q = (decide (Tr.MapR Q) && (decide (rnds Q ≤ 6) && (keysOk Q (rnds Q) Q && (roundsOk Q (rnds Q) 0 && decide (rCount Q = partsSum Q (rnds Q) 0)))))) := rfl
  generalize stateOk Q = X at HX ⊢
  by_cases hM : Tr.MapR Q
  · rw [decide_eq_true hM] at MO HX
    rw [Bool.true_and] at HX
    have hL := hs.1
    have hQ120 := hM.1
    have htot := map_tot hM
    have HPR := hide (map_pair hM)
    have RN := hide (fun w1 (hb : Below w.heap.size w w1) => rounds_any a len cap B Q (by omega) w1 (by have := hb.size; omega) (hs.below hb hB))
    have KO := hide (fun n k v (hn : n ≤ 1000000) (hk : k.size ≤ 1000) w1 (hb : Below w.heap.size w w1) => key_any a len cap B Q n k v hn hlen hk w1 (by have := hb.size; omega) (hs.below hb hB))
    have RO := hide (fun r (hr : r ≤ 1000) w1 (hb : Below w.heap.size w w1) => round_any a len cap B Q r hr hlen htot w1 (by have := hb.size; omega) (hs.below hb hB))
    have TX := hide (fun r (hr : r ≤ 1000) w1 (hb : Below w.heap.size w w1) => text_any a len cap B Q r (by omega) hlen (by omega) w1 (by have := hb.size; omega) (hs.below hb hB))
    have CP := hide (fun r w1 => Gr.specParts_any (textP Q r) (Nat.le_trans (text_size Q r) (by omega)) w1)
    have HPL := hide (fun r => Nat.le_trans (Gr.parts_length (textP Q r)) (Nat.le_trans (text_size Q r) htot))
    have HC := hide hs.2
    have HKS := hide (fun n j h => keys_step Q n Q j h)
    have HCS := hide (fun j h => count_step Q j h)
    have HRO1 : Hid (∀ f r, roundsOk Q (f + 1) r = (roundOk Q r && roundsOk Q f (r + 1))) := fun _ _ => rfl
    have HPS1 : Hid (∀ f r, partsSum Q (f + 1) r = (Gr.partsT (textP Q r)).length + partsSum Q f (r + 1)) := fun _ _ => rfl
    clear hs
    subst hL
    go_enter Tryz.func36, Tryz.ntmps36
    go_wp2_with fail
    refine (unhide MO w (Below.refl _ _)).mono ?_
    rintro e w1 ⟨rfl, b1⟩
    go_wp2_with fail
    refine (unhide RN w1 b1).mono ?_
    rintro e w2 ⟨rfl, hb2⟩
    have b2 := b1.trans (hb2.mono b1.size)
    generalize rnds Q = n at HX ⊢
    clear MO RN hb2 hM
    by_cases h6 : n ≤ 6
    · rw [decide_eq_true h6, Bool.true_and] at HX
      have h6i : ¬ (6 : Int) < (n : Int) := by omega
      obtain ⟨kk, hkk0⟩ : ∃ x, x = keysOk Q n Q := ⟨_, rfl⟩
      rw [← hkk0] at HX
      have H0 : Hid (kk = keysOk Q n (Q.drop 0)) := hkk0
      clear hkk0
      go_wp2_with fail
      go_loopw [4] (fun i wr => ∃ j : Nat, i = .int .i64 (j : Int) ∧ j ≤ Q.length ∧ Hid (kk = keysOk Q n (Q.drop j)) ∧ Below w2.heap.size w2 wr) (fun i _ => Q.length - (intOf i).toNat)
      case atStart => exact ⟨0, rfl, Nat.zero_le _, unhide H0, Below.refl _ _⟩
      case round =>
        obtain ⟨j, rfl, hj, HJ, hb⟩ := hrel
        have bw := b2.trans (hb.mono b2.size)
        by_cases hlt : j < Q.length
        · obtain ⟨b, off, rfl, hbB, d0, d1⟩ := unhide HC j hlt
          have HJ2 := hide ((unhide HJ).trans (unhide HKS n j hlt))
          have hp := unhide HPR Q[j] (List.getElem_mem hlt)
          generalize Q[j] = q at d0 d1 HJ2 hp
          obtain ⟨x, y⟩ := q
          simp only at d0 d1 HJ2 hp
          rw [← bw.cell (p := ⟨b, off + j * 2, none⟩) (by simp; omega)] at d0
          rw [← bw.cell (p := ⟨b, off + j * 2 + 1, none⟩) (by simp; omega)] at d1
          have HKO := hide (unhide KO n x y (by omega) (by omega) wr bw)
          generalize keyOk Q n x y = ko at HKO HJ2
          have hjn : (j : Int) < ((Q.length : Nat) : Int) := by omega
          clear hp
          go_wp2_with fail
          refine (unhide HKO).mono ?_
          rintro e w3 ⟨rfl, hb3⟩
          have b3 := bw.trans (hb3.mono bw.size)
          have hb3' := hb.trans (hb3.mono hb.size)
          clear d0 d1
          cases ko with
          | false =>
            have hX : X = false := by rw [unhide HX, unhide HJ2, Bool.false_and, Bool.false_and]
            subst hX
            go_wp2
            go_ret
            exact ⟨rfl, b3⟩
          | true =>
            rw [Bool.true_and] at HJ2
            go_wp2_with fail
            exact ⟨⟨j + 1, by go_num, by omega, unhide HJ2, hb3'⟩, by simp [intOf]; omega⟩
        · have hkk : kk = true := by rw [unhide HJ, List.drop_eq_nil_of_le (by omega)]; rfl
          rw [hkk, Bool.true_and] at HX
          obtain ⟨rr, hrr0⟩ : ∃ x, x = roundsOk Q n 0 := ⟨_, rfl⟩
          obtain ⟨ps, hps0⟩ : ∃ x, x = partsSum Q n 0 := ⟨_, rfl⟩
          rw [← hrr0, ← hps0] at HX
          have H1 : Hid (rr = roundsOk Q (n - 0) 0) := hrr0
          have H2 : Hid (ps = 0 + partsSum Q (n - 0) 0) := by show _ = _; rw [Nat.zero_add]; exact hps0
          clear hrr0 hps0
          have HBW := hide bw
          clear HJ H0 HKS hkk KO hb bw
          go_wp2_with fail
          go_loopw [5, 6] (fun s i wr => ∃ j t : Nat, i = .int .i64 (j : Int) ∧ s = .int .i64 (t : Int) ∧ j ≤ n ∧ t ≤ 100000 * j ∧ Hid (rr = roundsOk Q (n - j) j) ∧ Hid (ps = t + partsSum Q (n - j) j) ∧ Hid (Below w.heap.size w wr)) (fun _ i _ => n - (intOf i).toNat)
          case atStart => exact ⟨0, 0, rfl, rfl, Nat.zero_le _, Nat.zero_le _, unhide H1, unhide H2, unhide HBW⟩
          case round =>
            obtain ⟨j, t, rfl, rfl, hj, ht, HJ, HT, HB⟩ := hrel
            have bw := unhide HB
            by_cases hlt : j < n
            · obtain ⟨f, hf⟩ : ∃ f, n - j = f + 1 := ⟨n - j - 1, by omega⟩
              have hf2 : n - (j + 1) = f := by omega
              have HJ2 : Hid (rr = (roundOk Q j && roundsOk Q (n - (j + 1)) (j + 1))) := by show _ = _; rw [hf2, ← unhide HRO1, ← hf]; exact unhide HJ
              have HT2 : Hid (ps = (t + (Gr.partsT (textP Q j)).length) + partsSum Q (n - (j + 1)) (j + 1)) := by show _ = _; rw [hf2, Nat.add_assoc, ← unhide HPS1, ← hf]; exact unhide HT
              have hji : (j : Int) < (n : Int) := by omega
              have hpl := unhide HPL j
              have HRO := hide (unhide RO j (by omega) wr bw)
              have HTX := hide (fun w1 hb => unhide TX j (by omega) w1 hb)
              have HCP := hide (unhide CP j)
              generalize roundOk Q j = ro at HRO HJ2
              generalize Gr.partsT (textP Q j) = L at HT2 hpl HCP
              generalize textP Q j = T at HTX HCP
              clear hf hf2 HJ HT
              go_wp2_with fail
              refine (unhide HRO).mono ?_
              rintro e w3 ⟨rfl, hb3⟩
              have b3 := bw.trans (hb3.mono bw.size)
              cases ro with
              | false =>
                have hX : X = false := by rw [unhide HX, unhide HJ2, Bool.false_and, Bool.false_and]
                subst hX
                go_wp2
                go_ret
                exact ⟨rfl, b3⟩
              | true =>
                rw [Bool.true_and] at HJ2
                go_wp2_with fail
                refine (unhide HTX w3 b3).mono ?_
                rintro e w4 ⟨rfl, hb4⟩
                have b4 := b3.trans (hb4.mono b3.size)
                go_wp2_with fail
                refine (unhide HCP w4).mono ?_
                rintro e w5 ⟨⟨dL, rfl, hOL⟩, hb5⟩
                obtain ⟨aL, cL, rfl, _⟩ := hOL.at
                have HB5 := hide (b4.trans (hb5.mono b4.size))
                clear hOL hb5 hb4 hb3
                go_wp2_with fail
                exact ⟨⟨j + 1, t + L.length, by go_num, by go_num, by omega, by omega, unhide HJ2, unhide HT2, unhide HB5⟩, by simp [intOf]; omega⟩
            · have hrr : rr = true := by rw [unhide HJ, show n - j = 0 by omega]; rfl
              have hps : ps = t := by rw [unhide HT, show n - j = 0 by omega]; rfl
              rw [hrr, Bool.true_and, hps] at HX
              have hji : ¬ (j : Int) < (n : Int) := by omega
              obtain ⟨rc, hrc0⟩ : ∃ x, x = rCount Q := ⟨_, rfl⟩
              rw [← hrc0] at HX
              have H3 : Hid (rc = 0 + rCount (Q.drop 0)) := by show _ = _; rw [Nat.zero_add]; exact hrc0
              clear hrc0
              clear HJ HT hrr hps H1 H2
              go_wp2_with fail
              go_loopw [7, 8] (fun s i wr => ∃ k c : Nat, i = .int .i64 (k : Int) ∧ s = .int .i64 (c : Int) ∧ k ≤ Q.length ∧ c ≤ k ∧ Hid (rc = c + rCount (Q.drop k)) ∧ Hid (Below w.heap.size w wr)) (fun _ i _ => Q.length - (intOf i).toNat)
              case atStart => exact ⟨0, 0, rfl, rfl, Nat.zero_le _, Nat.zero_le _, unhide H3, unhide HB⟩
              case round =>
                obtain ⟨k, c, rfl, rfl, hk, hc, HK, HBk⟩ := hrel
                have bk := unhide HBk
                by_cases hltk : k < Q.length
                · obtain ⟨b, off, rfl, hbB, d0, d1⟩ := unhide HC k hltk
                  have HK2 := hide ((unhide HK).trans (by rw [unhide HCS k hltk]))
                  have hp := unhide HPR Q[k] (List.getElem_mem hltk)
                  generalize Q[k] = q at d0 d1 HK2 hp
                  obtain ⟨x, y⟩ := q
                  simp only at d0 d1 HK2 hp
                  have d2 := (bk.cell (p := ⟨b, off + k * 2, none⟩) (by simp; omega)).trans d0
                  have l0 : 0 < x.size := by omega
                  have e0 := byteAt_eq l0
                  have hxi : (0 : Int) < (x.size : Int) := by omega
                  have hxz : (x.size : Int) ≤ 8 := by omega
                  have hkn : (k : Int) < ((Q.length : Nat) : Int) := by omega
                  rw [e0] at HK2
                  clear d0 d1 e0 hp
                  by_cases h114 : (x[0]'l0).toNat = 114
                  · have hbq : (((x[0]'l0).toNat : Int) == 114) = true := by rw [h114]; rfl
                    rw [if_pos h114, ← Nat.add_assoc] at HK2
                    clear h114
                    go_wp2_with fail
                    exact ⟨⟨k + 1, c + 1, by go_num, by go_num, by omega, by omega, unhide HK2, unhide HBk⟩, by simp [intOf]; omega⟩
                  · have hbq : (((x[0]'l0).toNat : Int) == 114) = false := by rw [beq_eq_false_iff_ne]; omega
                    rw [if_neg h114, Nat.zero_add] at HK2
                    clear h114
                    go_wp2_with fail
                    exact ⟨⟨k + 1, c, by go_num, rfl, by omega, by omega, unhide HK2, unhide HBk⟩, by simp [intOf]; omega⟩
                · have hrc : rc = c := by rw [unhide HK, List.drop_eq_nil_of_le (by omega)]; rfl
                  rw [hrc] at HX
                  have hX : X = decide (c = t) := unhide HX
                  clear HK hrc
                  by_cases hct : c = t
                  · have hcb : ((c : Int) == (t : Int)) = true := by rw [beq_iff_eq]; omega
                    obtain rfl : X = true := by rw [hX, decide_eq_true hct]
                    clear hX hct HX
                    go_wp2
                    go_ret
                    exact ⟨rfl, bk⟩
                  · have hcb : ((c : Int) == (t : Int)) = false := by rw [beq_eq_false_iff_ne]; omega
                    obtain rfl : X = false := by rw [hX, decide_eq_false hct]
                    clear hX hct HX
                    go_wp2
                    go_ret
                    exact ⟨rfl, bk⟩
    · have hX : X = false := by rw [unhide HX, decide_eq_false h6, Bool.false_and]
      subst hX
      have h6i : (6 : Int) < (n : Int) := by omega
      go_wp2
      go_ret
      exact ⟨rfl, b2⟩
  · have hX : X = false := by rw [unhide HX, decide_eq_false hM, Bool.false_and]
    subst hX
    rw [decide_eq_false hM] at MO
    go_enter Tryz.func36, Tryz.ntmps36
    go_wp2_with fail
    refine (unhide MO w (Below.refl _ _)).mono ?_
    rintro e w1 ⟨rfl, b1⟩
    go_wp2
    go_ret
    exact ⟨rfl, b1⟩
end Rg
end Go.Proofs.YtihnaddfpmjpaaaGreatDoor
namespace Go.Proofs.YtihnaddfpmjpaaaGreatDoor
namespace Rg
open Go.RowKit
theorem get_pair : ∀ (Q : PL) (k v : ByteArray), getP Q k = some v → ∃ q ∈ Q, q.1 = k ∧ q.2 = v
  | [], k, v, h => by simp [getP] at h
  | q :: r, k, v, h => by
    rw [getP] at h
    split at h
    · rename_i hq
      have h1 := eq_of_beq hq
      rw [ByteArray.toList_eq, ByteArray.toList_eq] at h1
      exact ⟨q, by simp, ByteArray.ext (Array.toList_inj.1 h1), by simpa using h⟩
    · obtain ⟨p, hp, h2⟩ := get_pair r k v h
      exact ⟨p, by simp [hp], h2⟩
theorem keys_all (Q : PL) (n : Nat) : ∀ (L : PL), keysOk Q n L = true → ∀ q ∈ L, keyOk Q n q.1 q.2 = true
  | [], _, q, hq => by simp at hq
  | p :: r, h, q, hq => by
    rw [keysOk, Bool.and_eq_true] at h
    rcases List.mem_cons.1 hq with rfl | hq
    · exact h.1
    · exact keys_all Q n r h.2 q hq
def twl (a : Nat) : List UInt8 := [UInt8.ofNat (48 + a / 10), UInt8.ofNat (48 + a % 10)]
theorem u8_eq {a b : Nat} (ha : a < 256) (hb : b < 256) (h : UInt8.ofNat a = UInt8.ofNat b) : a = b := by
  have := congrArg UInt8.toNat h
  rwa [toNat_ofNat_small a ha, toNat_ofNat_small b hb] at this
theorem twl_inj {a b : Nat} (ha : a ≤ 99) (hb : b ≤ 99) (h : twl a = twl b) : a = b := by
  unfold twl at h
  simp only [List.cons.injEq, and_true] at h
  have h1 := u8_eq (by omega) (by omega) h.1
  have h2 := u8_eq (by omega) (by omega) h.2
  omega
theorem ba_ext {a b : ByteArray} (h : a.toList = b.toList) : a = b := by
  rw [ByteArray.toList_eq, ByteArray.toList_eq] at h
  exact ByteArray.ext (Array.toList_inj.1 h)
theorem tw_list (a : Nat) (h : a ≤ 99) : (tw a).toList = twl a := by
  have hd : ∀ m : Nat, m < 10 → Lib.decDigits m = [UInt8.ofNat (48 + m)] := fun m hm => by rw [Lib.decDigits, dif_pos hm]
  unfold tw
  split
  · rename_i h10
    rw [ByteArray.toList_eq, show (ByteArray.mk #[48] ++ ByteArray.mk (Lib.itoa (a : Int)).toArray).data.toList = 48 :: Lib.itoa (a : Int) by simp, Lib.itoa_nonneg, hd a h10]
    unfold twl
    rw [show a / 10 = 0 by omega, show a % 10 = a by omega]
    rfl
  · rename_i h10
    rw [ByteArray.toList_eq, show (ByteArray.mk (Lib.itoa (a : Int)).toArray).data.toList = Lib.itoa (a : Int) by simp, Lib.itoa_nonneg, Lib.decDigits, dif_neg h10, hd (a / 10) (by omega)]
    rfl
theorem size_list (t : ByteArray) : t.toList.length = t.size := by rw [ByteArray.toList_eq]; simp
theorem get_list (t : ByteArray) (i : Nat) (h : i < t.size) : t.toList[i]'(by rw [size_list]; exact h) = t[i]'h := by
  simp [ByteArray.toList_eq]; rfl
theorem byte_list (t : ByteArray) (i : Nat) (h : i < t.size) : t.toList[i]'(by rw [size_list]; exact h) = UInt8.ofNat (byteAt t i) := by
  rw [get_list t i h, byteAt_eq h]
  simp
theorem num_list {t : ByteArray} {a : Nat} (h : numP t = some a) : a ≤ 99 ∧ t.toList = twl a := by
  refine ⟨numP_le h, ?_⟩
  unfold numP at h
  split at h
  · rename_i hc
    obtain ⟨h2, h3, h4, h5, h6⟩ := hc
    simp only [Option.some.injEq] at h
    have hl := size_list t
    rw [h2] at hl
    have e : t.toList = [t.toList[0]'(by omega), t.toList[1]'(by omega)] := by
      apply List.ext_getElem
      · exact hl
      · intro i h1 h2'
        match i, h1, h2' with
        | 0, _, _ => rfl
        | 1, _, _ => rfl
        | i + 2, h1, _ => exact absurd h1 (by omega)
    rw [e, byte_list t 0 (by omega), byte_list t 1 (by omega)]
    unfold twl
    rw [show 48 + a / 10 = byteAt t 0 by omega, show 48 + a % 10 = byteAt t 1 by omega]
  · simp at h
theorem num_tw (a : Nat) (h : a ≤ 99) : numP (tw a) = some a := by
  have hl := tw_list a h
  have hs : (tw a).size = 2 := by rw [← size_list, hl]; rfl
  have b0 : byteAt (tw a) 0 = 48 + a / 10 := by
    have h1 := byte_list (tw a) 0 (by omega)
    simp only [hl] at h1
    have h2 := byteAt_eq (s := tw a) (i := 0) (by omega)
    have h3 := UInt8.toNat_lt ((tw a)[0]'(by omega))
    exact (u8_eq (by omega) (by omega) h1).symm
  have b1 : byteAt (tw a) 1 = 48 + a % 10 := by
    have h1 := byte_list (tw a) 1 (by omega)
    simp only [hl] at h1
    have h2 := byteAt_eq (s := tw a) (i := 1) (by omega)
    have h3 := UInt8.toNat_lt ((tw a)[1]'(by omega))
    exact (u8_eq (by omega) (by omega) h1).symm
  unfold numP
  rw [b0, b1, if_pos ⟨hs, by omega, by omega, by omega, by omega⟩]
  congr 1
  omega
def k1 (c : UInt8) (a : Nat) : ByteArray := ⟨#[c]⟩ ++ tw a
def k2 (c : UInt8) (a b : Nat) : ByteArray := (⟨#[c]⟩ ++ tw a) ++ tw b
theorem k1_list (c : UInt8) (a : Nat) (h : a ≤ 99) : (k1 c a).toList = c :: twl a := by
  rw [← tw_list a h, ByteArray.toList_eq, ByteArray.toList_eq]
  simp [k1]
theorem k2_list (c : UInt8) (a b : Nat) (h : a ≤ 99) (hb : b ≤ 99) : (k2 c a b).toList = c :: (twl a ++ twl b) := by
  rw [← tw_list a h, ← tw_list b hb, ByteArray.toList_eq, ByteArray.toList_eq, ByteArray.toList_eq]
  simp [k2]
theorem k1_inj {c : UInt8} {a b : Nat} (ha : a ≤ 99) (hb : b ≤ 99) (h : (k1 c a).toList = (k1 c b).toList) : a = b := by
  rw [k1_list c a ha, k1_list c b hb] at h
  exact twl_inj ha hb (by simpa using h)
theorem k2_inj {c : UInt8} {a b a' b' : Nat} (ha : a ≤ 99) (hb : b ≤ 99) (ha' : a' ≤ 99) (hb' : b' ≤ 99) (h : (k2 c a b).toList = (k2 c a' b').toList) : a = a' ∧ b = b' := by
  rw [k2_list c a b ha hb, k2_list c a' b' ha' hb'] at h
  have h1 : twl a ++ twl b = twl a' ++ twl b' := by simpa using h
  have h2 := List.append_inj h1 rfl
  exact ⟨twl_inj ha ha' h2.1, twl_inj hb hb' h2.2⟩
theorem extract_list (t : ByteArray) (i j : Nat) : (t.extract i j).toList = (t.toList.take j).drop i := by
  rw [ByteArray.toList_eq, ByteArray.toList_eq, ByteArray.data_extract, Array.toList_extract, List.extract_eq_take_drop]
  rw [List.drop_take]
theorem head_list {t : ByteArray} (h : 0 < t.size) : t.toList = UInt8.ofNat (byteAt t 0) :: t.toList.drop 1 := by
  have hl := size_list t
  have h1 := byte_list t 0 h
  rw [← h1]
  rw [← List.drop_eq_getElem_cons (by omega)]
  rfl
theorem key1_is {k : ByteArray} {a : Nat} (hs : k.size = 3) (h : numP (k.extract 1 k.size) = some a) : a ≤ 99 ∧ k = k1 (UInt8.ofNat (byteAt k 0)) a := by
  obtain ⟨ha, hl⟩ := num_list h
  refine ⟨ha, ba_ext ?_⟩
  rw [k1_list _ a ha, head_list (by omega), ← hl, extract_list]
  have e : List.take k.size k.toList = k.toList := List.take_of_length_le (by rw [size_list]; omega)
  rw [e]
theorem key2_is {k : ByteArray} {a b : Nat} (hs : k.size = 5) (h : numP (k.extract 1 3) = some a) (h' : numP (k.extract 3 k.size) = some b) : a ≤ 99 ∧ b ≤ 99 ∧ k = k2 (UInt8.ofNat (byteAt k 0)) a b := by
  obtain ⟨ha, hl⟩ := num_list h
  obtain ⟨hb, hl'⟩ := num_list h'
  refine ⟨ha, hb, ba_ext ?_⟩
  rw [k2_list _ a b ha hb, head_list (by omega), ← hl, ← hl', extract_list, extract_list]
  have e : List.take k.size k.toList = k.toList := List.take_of_length_le (by rw [size_list]; omega)
  rw [e]
  congr 1
  have hz := size_list k
  rw [List.drop_take]
  conv => lhs; rw [← List.take_append_drop 2 (List.drop 1 k.toList)]
  rw [List.drop_drop]
theorem k1_size (c : UInt8) (a : Nat) (h : a ≤ 99) : (k1 c a).size = 3 := by rw [← size_list, k1_list c a h]; rfl
theorem k2_size (c : UInt8) (a b : Nat) (h : a ≤ 99) (hb : b ≤ 99) : (k2 c a b).size = 5 := by rw [← size_list, k2_list c a b h hb]; rfl
theorem byte_head {t : ByteArray} {c : UInt8} {r : List UInt8} (h : t.toList = c :: r) : byteAt t 0 = c.toNat := by
  have hs : 0 < t.size := by rw [← size_list, h]; simp
  have h1 := get_list t 0 hs
  simp only [h] at h1
  rw [byteAt_eq hs, ← h1]
  rfl
theorem k1_byte (c : UInt8) (a : Nat) (h : a ≤ 99) : byteAt (k1 c a) 0 = c.toNat := byte_head (k1_list c a h)
theorem k2_byte (c : UInt8) (a b : Nat) (h : a ≤ 99) (hb : b ≤ 99) : byteAt (k2 c a b) 0 = c.toNat := byte_head (k2_list c a b h hb)
theorem k1_num (c : UInt8) (a : Nat) (h : a ≤ 99) : numP ((k1 c a).extract 1 (k1 c a).size) = some a := by
  have e : (k1 c a).extract 1 (k1 c a).size = tw a := ba_ext (by
    rw [extract_list, List.take_of_length_le (by rw [size_list]; omega), k1_list c a h, tw_list a h]; rfl)
  rw [e, num_tw a h]
theorem k2_num (c : UInt8) (a b : Nat) (h : a ≤ 99) (hb : b ≤ 99) : (k2 c a b).extract 1 3 = tw a ∧ (k2 c a b).extract 3 (k2 c a b).size = tw b := by
  refine ⟨ba_ext ?_, ba_ext ?_⟩
  · rw [extract_list, k2_list c a b h hb, tw_list a h]; rfl
  · rw [extract_list, List.take_of_length_le (by rw [size_list]; omega), k2_list c a b h hb, tw_list b hb]; rfl
theorem less_cons (a : UInt8) (x y : List UInt8) : Op.bytesLess (a :: x) (a :: y) = Op.bytesLess x y := by
  simp [Op.bytesLess]
theorem less_lt {a b : UInt8} (h : a < b) (x y : List UInt8) : Op.bytesLess (a :: x) (b :: y) = true := by
  simp [Op.bytesLess, h]
theorem u8_lt {a b : Nat} (ha : a < 256) (hb : b < 256) (h : a < b) : UInt8.ofNat a < UInt8.ofNat b := by
  rw [UInt8.lt_iff_toNat_lt, toNat_ofNat_small a ha, toNat_ofNat_small b hb]; exact h
theorem twl_less {a b : Nat} (hab : a < b) (hb : b ≤ 99) : Op.bytesLess (twl a) (twl b) = true := by
  unfold twl
  by_cases h : a / 10 = b / 10
  · rw [h, less_cons]
    exact less_lt (u8_lt (by omega) (by omega) (by omega)) _ _
  · exact less_lt (u8_lt (by omega) (by omega) (by omega)) _ _
theorem k1_less {c : UInt8} {a b : Nat} (hab : a < b) (hb : b ≤ 99) : Op.bytesLess (k1 c a).toList (k1 c b).toList = true := by
  rw [k1_list c a (by omega), k1_list c b hb, less_cons]
  exact twl_less hab hb
theorem k2_less {c : UInt8} {a i j : Nat} (ha : a ≤ 99) (hij : i < j) (hj : j ≤ 99) : Op.bytesLess (k2 c a i).toList (k2 c a j).toList = true := by
  rw [k2_list c a i ha (by omega), k2_list c a j ha hj, less_cons]
  unfold twl
  simp only [List.cons_append, List.nil_append, less_cons]
  exact twl_less hij hj
theorem less_trans : ∀ (x y z : List UInt8), Op.bytesLess x y = true → Op.bytesLess y z = true → Op.bytesLess x z = true
  | _, [], _, h, _ => by cases ‹List UInt8› <;> simp [Op.bytesLess] at h
  | _, _ :: _, [], _, h => by simp [Op.bytesLess] at h
  | [], _ :: _, _ :: _, _, _ => by simp [Op.bytesLess]
  | a :: x, b :: y, c :: z, h1, h2 => by
    simp only [Op.bytesLess, Bool.or_eq_true, decide_eq_true_eq, Bool.and_eq_true, beq_iff_eq] at *
    rcases h1 with h1 | ⟨rfl, h1⟩
    · rcases h2 with h2 | ⟨rfl, h2⟩
      · exact Or.inl (UInt8.lt_trans h1 h2)
      · exact Or.inl h1
    · rcases h2 with h2 | ⟨rfl, h2⟩
      · exact Or.inl h2
      · exact Or.inr ⟨rfl, less_trans x y z h1 h2⟩
theorem less_irrefl : ∀ (x : List UInt8), Op.bytesLess x x = false
  | [] => rfl
  | a :: x => by rw [less_cons]; exact less_irrefl x
def Asc (Q : PL) : Prop := Q.Pairwise fun p q => Op.bytesLess p.1.toList q.1.toList = true
theorem pairwise_adj {α : Type} {R : α → α → Prop} (htr : ∀ x y z, R x y → R y z → R x z) : ∀ (L : List α), (∀ i (h : i + 1 < L.length), R (L[i]'(by omega)) L[i + 1]) → L.Pairwise R
  | [], _ => List.Pairwise.nil
  | [x], _ => by simp
  | x :: y :: L, h => by
    have ih := pairwise_adj htr (y :: L) (fun i hi => h (i + 1) (by simp at hi ⊢; omega))
    refine List.Pairwise.cons ?_ ih
    have h0 : R x y := h 0 (by simp)
    intro z hz
    rcases List.mem_cons.1 hz with rfl | hz
    · exact h0
    · exact htr _ _ _ h0 ((List.pairwise_cons.1 ih).1 z hz)
theorem map_asc {Q : PL} (h : Tr.MapR Q) : Asc Q := by
  refine pairwise_adj (fun (x y z : ByteArray × ByteArray) => less_trans x.1.toList y.1.toList z.1.toList) Q (fun i hi => ?_)
  have h1 := h.2 (i + 1) hi
  unfold Tr.pairOk Tr.prevP at h1
  simp only [Bool.and_eq_true, Bool.or_eq_true, Nat.add_sub_cancel] at h1
  have h2 := h1.2.2
  rw [List.getElem?_eq_getElem (by omega)] at h2
  simpa using h2
theorem asc_ahead {P L : PL} {q p : ByteArray × ByteArray} (h : Asc (P ++ q :: L)) (hp : p ∈ P ++ q :: L) (hl : Op.bytesLess p.1.toList q.1.toList = true) : p ∈ P := by
  rcases List.mem_append.1 hp with h1 | h1
  · exact h1
  · have h2 := (List.pairwise_append.1 h).2.1
    rcases List.mem_cons.1 h1 with rfl | h1
    · rw [less_irrefl] at hl; cases hl
    · have h3 := (List.pairwise_cons.1 h2).1 p h1
      have := less_trans _ _ _ hl h3
      rw [less_irrefl] at this
      cases this
theorem asc_new {P L : PL} {q : ByteArray × ByteArray} (h : Asc (P ++ q :: L)) : ∀ p ∈ P, p.1.toList ≠ q.1.toList := by
  intro p hp e
  have h2 := (List.pairwise_append.1 h).2.2 p hp q (by simp)
  rw [e, less_irrefl] at h2
  cases h2
theorem getP_append (P : PL) (q : ByteArray × ByteArray) (k : ByteArray) : getP (P ++ [q]) k = match getP P k with | some v => some v | none => if q.1.toList == k.toList then some q.2 else none := by
  induction P with
  | nil => simp only [List.nil_append, getP]
  | cons p P ih =>
    simp only [List.cons_append, getP]
    split
    · rfl
    · exact ih
theorem getP_none {P : PL} {k : ByteArray} (h : ∀ p ∈ P, p.1.toList ≠ k.toList) : getP P k = none := by
  induction P with
  | nil => rfl
  | cons p P ih =>
    rw [getP, if_neg (by intro e; exact h p (by simp) (eq_of_beq e))]
    exact ih (fun p hp => h p (by simp [hp]))
theorem getP_some {P : PL} {p : ByteArray × ByteArray} (h : p ∈ P) : (getP P p.1).isSome = true := by
  cases hg : getP P p.1 with
  | some v => rfl
  | none =>
    exfalso
    induction P with
    | nil => simp at h
    | cons q P ih =>
      rw [getP] at hg
      split at hg
      · cases hg
      · rename_i hne
        rcases List.mem_cons.1 h with rfl | h
        · exact hne (by simp)
        · exact ih h hg
theorem numsF_len (k : ByteArray) : ∀ (f i : Nat) (ns : List Nat), numsF k f i = some ns → ns.length = f
  | 0, _, ns, h => by simp [numsF] at h; subst h; rfl
  | f + 1, i, ns, h => by
    rw [numsF] at h
    split at h
    · cases h
    · cases hr : numsF k f (i + 2) with
      | none => rw [hr] at h; cases h
      | some m =>
        rw [hr] at h
        have := numsF_len k f (i + 2) m hr
        simp at h
        subst h
        simp [this]
theorem takeP_1 (R : Rgs) (k v : ByteArray) (hs : k.size = 3) : takeP R k v = match numP (k.extract 1 k.size) with | none => none | some a => take1 R (byteAt k 0) a v := by
  unfold takeP numsK
  rw [if_neg (by omega), hs]
  show (match (match numP (k.extract 1 3) with | none => none | some n => (some ([] : List Nat)).map (n :: ·)) with | none => none | some [a] => take1 R (byteAt k 0) a v | some [a, b] => take2 R (byteAt k 0) a b v | some _ => none) = _
  cases numP (k.extract 1 3) <;> rfl
theorem takeP_2 (R : Rgs) (k v : ByteArray) (hs : k.size = 5) : takeP R k v = match numP (k.extract 1 3) with | none => none | some a => match numP (k.extract 3 k.size) with | none => none | some b => take2 R (byteAt k 0) a b v := by
  unfold takeP numsK
  rw [if_neg (by omega), hs]
  show (match (match numP (k.extract 1 3) with | none => none | some n => (match numP (k.extract 3 5) with | none => none | some m => (some ([] : List Nat)).map (m :: ·)).map (n :: ·)) with | none => none | some [a] => take1 R (byteAt k 0) a v | some [a, b] => take2 R (byteAt k 0) a b v | some _ => none) = _
  cases numP (k.extract 1 3) <;> cases numP (k.extract 3 5) <;> rfl
theorem takeP_no (R : Rgs) (k v : ByteArray) (h3 : k.size ≠ 3) (h5 : k.size ≠ 5) : takeP R k v = none := by
  unfold takeP
  cases hn : numsK k with
  | none => rfl
  | some ns =>
    unfold numsK at hn
    split at hn
    · cases hn
    · have hl := numsF_len k _ _ _ hn
      match ns, hl with
      | [], _ => rfl
      | [_], hl => simp at hl; omega
      | [_, _], hl => simp at hl; omega
      | _ :: _ :: _ :: _, _ => rfl
theorem take_form {R R' : Rgs} {k v : ByteArray} (h : takeP R k v = some R') :
    (∃ a, a ≤ 99 ∧ k = k1 118 a ∧ takeV R a v = some R') ∨ (∃ a b, a ≤ 99 ∧ b ≤ 99 ∧ k = k2 101 a b ∧ takeE R a b v = some R') ∨ (∃ a, a ≤ 99 ∧ k = k1 113 a ∧ takeQ R a v = some R') ∨ (∃ a b, a ≤ 99 ∧ b ≤ 99 ∧ k = k2 114 a b ∧ takeR R a b v = some R') := by
  by_cases h3 : k.size = 3
  · rw [takeP_1 R k v h3] at h
    cases hn : numP (k.extract 1 k.size) with
    | none => rw [hn] at h; cases h
    | some a =>
      rw [hn] at h
      obtain ⟨ha, hk⟩ := key1_is h3 hn
      simp only [take1] at h
      split at h
      · rename_i hc; rw [hc] at hk; exact Or.inr (Or.inr (Or.inl ⟨a, ha, hk, h⟩))
      · split at h
        · rename_i hc; rw [hc] at hk; exact Or.inl ⟨a, ha, hk, h⟩
        · cases h
  · by_cases h5 : k.size = 5
    · rw [takeP_2 R k v h5] at h
      cases hn : numP (k.extract 1 3) with
      | none => rw [hn] at h; cases h
      | some a =>
        cases hm : numP (k.extract 3 k.size) with
        | none => rw [hn, hm] at h; cases h
        | some b =>
          rw [hn, hm] at h
          obtain ⟨ha, hb, hk⟩ := key2_is h5 hn hm
          simp only [take2] at h
          split at h
          · rename_i hc; rw [hc] at hk; exact Or.inr (Or.inl ⟨a, b, ha, hb, hk, h⟩)
          · split at h
            · rename_i hc; rw [hc] at hk; exact Or.inr (Or.inr (Or.inr ⟨a, b, ha, hb, hk, h⟩))
            · cases h
    · rw [takeP_no R k v h3 h5] at h; cases h
theorem k1_ne {c c' : UInt8} (h : c ≠ c') {a b : Nat} (ha : a ≤ 99) (hb : b ≤ 99) : (k1 c a).toList ≠ (k1 c' b).toList := by
  rw [k1_list c a ha, k1_list c' b hb]; intro e; exact h (by simpa using (List.cons.inj e).1)
theorem k2_ne {c c' : UInt8} (h : c ≠ c') {a b a' b' : Nat} (ha : a ≤ 99) (hb : b ≤ 99) (ha' : a' ≤ 99) (hb' : b' ≤ 99) : (k2 c a b).toList ≠ (k2 c' a' b').toList := by
  rw [k2_list c a b ha hb, k2_list c' a' b' ha' hb']; intro e; exact h (List.cons.inj e).1
theorem k12_ne {c c' : UInt8} {a a' b' : Nat} (ha : a ≤ 99) (ha' : a' ≤ 99) (hb' : b' ≤ 99) : (k1 c a).toList ≠ (k2 c' a' b').toList := by
  rw [k1_list c a ha, k2_list c' a' b' ha' hb']; intro e; have := congrArg List.length e; simp [twl] at this
theorem getP_other {P : PL} {q : ByteArray × ByteArray} {k : ByteArray} (h : q.1.toList ≠ k.toList) : getP (P ++ [q]) k = getP P k := by
  rw [getP_append, if_neg (by intro e; exact h (eq_of_beq e))]
  cases getP P k <;> rfl
theorem getP_same {P : PL} {q : ByteArray × ByteArray} (h : ∀ p ∈ P, p.1.toList ≠ q.1.toList) : getP (P ++ [q]) q.1 = some q.2 := by
  rw [getP_append, getP_none h]
  simp
theorem textF_append (r : Nat) (q : ByteArray × ByteArray) : ∀ (P : PL) (s : ByteArray), textF r s (P ++ [q]) = if isR r q.1 = true then textF r s P ++ q.2 else textF r s P
  | [], s => rfl
  | p :: P, s => by
    simp only [List.cons_append, textF]
    exact textF_append r q P _
theorem text_append (r : Nat) (P : PL) (q : ByteArray × ByteArray) : textP (P ++ [q]) r = if isR r q.1 = true then textP P r ++ q.2 else textP P r := textF_append r q P _
theorem rCount_append (q : ByteArray × ByteArray) : ∀ (P : PL), rCount (P ++ [q]) = rCount P + (if byteAt q.1 0 = 114 then 1 else 0)
  | [] => by simp [rCount]
  | p :: P => by
    simp only [List.cons_append, rCount, rCount_append q P]
    omega
theorem isR_1 (r : Nat) (c : UInt8) (a : Nat) (ha : a ≤ 99) : isR r (k1 c a) = false := by
  unfold isR; rw [k1_size c a ha]; rfl
theorem isR_2 (r : Nat) (hr : r ≤ 99) (c : UInt8) (a b : Nat) (ha : a ≤ 99) (hb : b ≤ 99) : isR r (k2 c a b) = decide (c = 114 ∧ a = r) := by
  have e : ((k2 c a b).extract 0 3).toList = (k1 c a).toList := by
    rw [extract_list, k2_list c a b ha hb, k1_list c a ha]; rfl
  unfold isR
  rw [k2_size c a b ha hb, e]
  show (true && ((k1 c a).toList == (k1 114 r).toList)) = _
  rw [Bool.true_and]
  by_cases hc : c = 114
  · subst hc
    by_cases h : a = r
    · subst h; simp
    · rw [decide_eq_false (by simp [h])]
      rw [beq_eq_false_iff_ne]
      intro e; exact h (k1_inj ha hr e)
  · rw [decide_eq_false (by simp [hc]), beq_eq_false_iff_ne]
    exact k1_ne hc ha hr
def partsN (L : List (List Int × List ByteArray)) : Nat := (L.map fun x => x.2.length).sum
theorem partsN_set : ∀ (L : List (List Int × List ByteArray)) (a : Nat) (x : List Int × List ByteArray) (v : ByteArray), L[a]? = some x → partsN (L.set a (x.1, x.2 ++ [v])) = partsN L + 1
  | [], a, x, v, h => by simp at h
  | y :: L, 0, x, v, h => by
    simp at h; subst h
    simp [partsN]; omega
  | y :: L, a + 1, x, v, h => by
    have ih := partsN_set L a x v (by simpa using h)
    unfold partsN at *
    simp only [List.set_cons_succ, List.map_cons, List.sum_cons, ih]
    omega
def FormK (n : Nat) (p : ByteArray × ByteArray) : Prop :=
  (∃ a, a < 12 ∧ p.1 = k1 118 a ∧ (standV p.2).isSome = true) ∨ (∃ a b, a < b ∧ b < 12 ∧ p.1 = k2 101 a b ∧ p.2.size = 3) ∨ (∃ a, a ≤ 99 ∧ a < n ∧ p.1 = k1 113 a) ∨ (∃ a b, a ≤ 99 ∧ b ≤ 99 ∧ a < n ∧ p.1 = k2 114 a b)
theorem FormK.mono {n m : Nat} {p : ByteArray × ByteArray} (h : FormK n p) (hm : n ≤ m) : FormK m p := by
  rcases h with h | h | ⟨a, h1, h2, h3⟩ | ⟨a, b, h1, h2, h3, h4⟩
  · exact Or.inl h
  · exact Or.inr (Or.inl h)
  · exact Or.inr (Or.inr (Or.inl ⟨a, h1, by omega, h3⟩))
  · exact Or.inr (Or.inr (Or.inr ⟨a, b, h1, h2, by omega, h4⟩))
/-- What a register holds once some pairs are taken. -/
structure Inv (P : PL) (R : Rgs) : Prop where
  v : ∀ a, a < 12 → (match getP P (k1 118 a) with | none => R.mem a = (0, 0) | some v => standV v = some (R.mem a))
  e : ∀ a b, a < b → b < 12 → R.lnk a b = (getP P (k2 101 a b)).map bytes3
  e0 : ∀ a b, ¬ (a < b ∧ b < 12) → R.lnk a b = none
  q : ∀ r, r ≤ 99 → (R.rds[r]?).map (·.1) = (getP P (k1 113 r)).map bytesI
  ql : R.rds.length ≤ 100
  r : ∀ r i, r ≤ 99 → i ≤ 99 → (R.rds[r]?).bind (·.2[i]?) = getP P (k2 114 r i)
  t : ∀ r, r ≤ 99 → joinB (((R.rds[r]?).map (·.2)).getD []) = textP P r
  c : rCount P = partsN R.rds
  rl : ∀ x ∈ R.rds, x.2.length ≤ 100
  f : ∀ p ∈ P, FormK R.rds.length p
theorem inv_nil : Inv [] R0 where
  v := fun a _ => rfl
  e := fun a b _ _ => rfl
  e0 := fun a b _ => rfl
  q := fun r _ => rfl
  ql := by simp [R0]
  r := fun r i _ _ => rfl
  t := fun r _ => rfl
  c := rfl
  rl := by simp [R0]
  f := by simp
theorem inv_v {P : PL} {R R' : Rgs} {a : Nat} {v : ByteArray} (I : Inv P R) (ha : a ≤ 99) (hn : ∀ p ∈ P, p.1.toList ≠ (k1 118 a).toList) (h : takeV R a v = some R') : Inv (P ++ [(k1 118 a, v)]) R' := by
  unfold takeV at h
  split at h
  · rename_i h12
    split at h
    · cases h
    · rename_i s hs
      simp only [Option.some.injEq] at h
      subst h
      exact {
        v := fun b hb => by
          by_cases hab : b = a
          · subst hab
            have hg : getP (P ++ [(k1 118 b, v)]) (k1 118 b) = some v := getP_same (q := (k1 118 b, v)) hn
            rw [hg]
            simp [hs]
          · rw [getP_other (by intro e; exact hab (k1_inj (by omega) (by omega) e.symm))]
            simp only [hab, if_false]
            exact I.v b hb
        e := fun x y hxy hy => by rw [getP_other (k12_ne ha (by omega) (by omega))]; exact I.e x y hxy hy
        e0 := I.e0
        q := fun r hr => by rw [getP_other (k1_ne (by decide) ha hr)]; exact I.q r hr
        ql := I.ql
        r := fun r i hr hi => by rw [getP_other (k12_ne ha hr hi)]; exact I.r r i hr hi
        t := fun r hr => by rw [text_append, if_neg (by rw [isR_1 r _ a ha]; simp)]; exact I.t r hr
        c := by rw [rCount_append, if_neg (by rw [k1_byte _ a ha]; decide), Nat.add_zero]; exact I.c
        rl := I.rl
        f := fun p hp => by
          rcases List.mem_append.1 hp with hp | hp
          · exact I.f p hp
          · simp only [List.mem_singleton] at hp
            subst hp
            exact Or.inl ⟨a, h12, rfl, by rw [hs]; rfl⟩ }
  · cases h
theorem inv_e {P : PL} {R R' : Rgs} {a b : Nat} {v : ByteArray} (I : Inv P R) (ha : a ≤ 99) (hb : b ≤ 99) (hn : ∀ p ∈ P, p.1.toList ≠ (k2 101 a b).toList) (h : takeE R a b v = some R') : Inv (P ++ [(k2 101 a b, v)]) R' := by
  unfold takeE at h
  split at h
  · rename_i hc
    simp only [Option.some.injEq] at h
    subst h
    exact {
      v := fun x hx => by rw [getP_other (Ne.symm (k12_ne (by omega) ha hb))]; exact I.v x hx
      e := fun x y hxy hy => by
        by_cases hab : x = a ∧ y = b
        · obtain ⟨rfl, rfl⟩ := hab
          have hg : getP (P ++ [(k2 101 x y, v)]) (k2 101 x y) = some v := getP_same (q := (k2 101 x y, v)) hn
          rw [hg]
          simp
        · rw [getP_other (by intro e; have := k2_inj ha hb (by omega) (by omega) e; exact hab ⟨this.1.symm, this.2.symm⟩)]
          simp only [hab, if_false]
          exact I.e x y hxy hy
      e0 := fun x y hxy => by
        have : ¬ (x = a ∧ y = b) := by rintro ⟨rfl, rfl⟩; exact hxy ⟨hc.2.1, hc.1⟩
        simp only [this, if_false]
        exact I.e0 x y hxy
      q := fun r hr => by rw [getP_other (Ne.symm (k12_ne hr ha hb))]; exact I.q r hr
      ql := I.ql
      r := fun r i hr hi => by rw [getP_other (k2_ne (by decide) ha hb hr hi)]; exact I.r r i hr hi
      t := fun r hr => by rw [text_append, if_neg (by rw [isR_2 r hr _ a b ha hb]; simp)]; exact I.t r hr
      c := by rw [rCount_append, if_neg (by rw [k2_byte _ a b ha hb]; decide), Nat.add_zero]; exact I.c
      rl := I.rl
      f := fun p hp => by
        rcases List.mem_append.1 hp with hp | hp
        · exact I.f p hp
        · simp only [List.mem_singleton] at hp
          subst hp
          exact Or.inr (Or.inl ⟨a, b, hc.2.1, hc.1, rfl, hc.2.2⟩) }
  · cases h
theorem inv_q {P : PL} {R R' : Rgs} {a : Nat} {v : ByteArray} (I : Inv P R) (ha : a ≤ 99) (hn : ∀ p ∈ P, p.1.toList ≠ (k1 113 a).toList) (h : takeQ R a v = some R') : Inv (P ++ [(k1 113 a, v)]) R' := by
  unfold takeQ at h
  split at h
  · rename_i hc
    simp only [Option.some.injEq] at h
    subst h
    have hget : ∀ r, r ≠ a → (R.rds ++ [(bytesI v, ([] : List ByteArray))])[r]? = R.rds[r]? := fun r hr => by
      rcases Nat.lt_or_ge r R.rds.length with h1 | h1
      · rw [List.getElem?_append_left h1]
      · rw [List.getElem?_eq_none (by simp; omega), List.getElem?_eq_none h1]
    have hgeta : (R.rds ++ [(bytesI v, ([] : List ByteArray))])[a]? = some (bytesI v, []) := by rw [hc]; simp
    have hnone : R.rds[a]? = none := List.getElem?_eq_none (by omega)
    exact {
      v := fun x hx => by rw [getP_other (k1_ne (by decide) ha (by omega))]; exact I.v x hx
      e := fun x y hxy hy => by rw [getP_other (k12_ne ha (by omega) (by omega))]; exact I.e x y hxy hy
      e0 := I.e0
      q := fun r hr => by
        by_cases hra : r = a
        · subst hra
          have hg : getP (P ++ [(k1 113 r, v)]) (k1 113 r) = some v := getP_same (q := (k1 113 r, v)) hn
          rw [hg]
          simp only [hgeta, Option.map_some]
        · rw [getP_other (by intro e; exact hra (k1_inj ha hr e).symm)]
          simp only [hget r hra]
          exact I.q r hr
      ql := by simp; omega
      r := fun r i hr hi => by
        rw [getP_other (k12_ne ha hr hi)]
        by_cases hra : r = a
        · subst hra
          have h0 := I.r r i hr hi
          rw [hnone] at h0
          simp only [hgeta, ← h0, Option.bind_some, Option.bind_none]
          simp
        · simp only [hget r hra]
          exact I.r r i hr hi
      t := fun r hr => by
        rw [text_append, if_neg (by rw [isR_1 r _ a ha]; simp)]
        by_cases hra : r = a
        · subst hra
          have h0 := I.t r hr
          rw [hnone] at h0
          simp only [hgeta, ← h0]
          rfl
        · simp only [hget r hra]
          exact I.t r hr
      c := by
        rw [rCount_append, if_neg (by rw [k1_byte _ a ha]; decide), Nat.add_zero, I.c]
        simp [partsN]
      rl := fun x hx => by
        rcases List.mem_append.1 hx with hx | hx
        · exact I.rl x hx
        · simp only [List.mem_singleton] at hx
          subst hx
          simp
      f := fun p hp => by
        rcases List.mem_append.1 hp with hp | hp
        · exact (I.f p hp).mono (by simp)
        · simp only [List.mem_singleton] at hp
          subst hp
          exact Or.inr (Or.inr (Or.inl ⟨a, ha, by simp; omega, rfl⟩)) }
  · cases h
theorem inv_r {P : PL} {R R' : Rgs} {a b : Nat} {v : ByteArray} (I : Inv P R) (ha : a ≤ 99) (hb : b ≤ 99) (hn : ∀ p ∈ P, p.1.toList ≠ (k2 114 a b).toList) (h : takeR R a b v = some R') : Inv (P ++ [(k2 114 a b, v)]) R' := by
  unfold takeR at h
  split at h
  · cases h
  · rename_i x hx
    split at h
    · rename_i hc
      simp only [Option.some.injEq] at h
      subst h
      have hal : a < R.rds.length := (List.getElem?_eq_some_iff.1 hx).1
      have hget : ∀ r, r ≠ a → (R.rds.set a (x.1, x.2 ++ [v]))[r]? = R.rds[r]? := fun r hr => List.getElem?_set_ne (Ne.symm hr)
      have hgeta : (R.rds.set a (x.1, x.2 ++ [v]))[a]? = some (x.1, x.2 ++ [v]) := by rw [List.getElem?_set_self hal]
      exact {
        v := fun y hy => by rw [getP_other (Ne.symm (k12_ne (by omega) ha hb))]; exact I.v y hy
        e := fun y z hxy hy => by rw [getP_other (k2_ne (by decide) ha hb (by omega) (by omega))]; exact I.e y z hxy hy
        e0 := I.e0
        q := fun r hr => by
          rw [getP_other (Ne.symm (k12_ne hr ha hb))]
          by_cases hra : r = a
          · subst hra
            have h0 := I.q r hr
            rw [hx] at h0
            simp only [hgeta, ← h0, Option.map_some]
          · simp only [hget r hra]
            exact I.q r hr
        ql := by simp only [List.length_set]; exact I.ql
        r := fun r i hr hi => by
          by_cases hra : r = a ∧ i = b
          · obtain ⟨rfl, rfl⟩ := hra
            have hg : getP (P ++ [(k2 114 r i, v)]) (k2 114 r i) = some v := getP_same (q := (k2 114 r i, v)) hn
            rw [hg]
            simp only [hgeta, Option.bind_some, hc]
            simp
          · rw [getP_other (by intro e; have := k2_inj ha hb hr hi e; exact hra ⟨this.1.symm, this.2.symm⟩)]
            by_cases hr2 : r = a
            · subst hr2
              have hib : i ≠ b := fun e => hra ⟨rfl, e⟩
              have h0 := I.r r i hr hi
              rw [hx] at h0
              simp only [hgeta, ← h0, Option.bind_some]
              rcases Nat.lt_or_ge i x.2.length with h1 | h1
              · rw [List.getElem?_append_left h1]
              · rw [List.getElem?_eq_none (by simp; omega), List.getElem?_eq_none h1]
            · simp only [hget r hr2]
              exact I.r r i hr hi
        t := fun r hr => by
          rw [text_append, isR_2 r hr _ a b ha hb]
          by_cases hra : r = a
          · subst hra
            have h0 := I.t r hr
            rw [hx] at h0
            simp only [hgeta, ← h0, Option.map_some, Option.getD_some, joinB_snoc, decide_true, and_self, if_true]
          · have : ¬ (a = r) := fun e => hra e.symm
            simp only [this, and_false, decide_false, Bool.false_eq_true, if_false, hget r hra]
            exact I.t r hr
        c := by
          rw [rCount_append, if_pos (by rw [k2_byte _ a b ha hb]; decide), I.c]
          exact (partsN_set R.rds a x v hx).symm
        rl := fun y hy => by
          rcases List.mem_or_eq_of_mem_set hy with hy | hy
          · exact I.rl y hy
          · subst hy
            simp; omega
        f := fun p hp => by
          simp only [List.length_set]
          rcases List.mem_append.1 hp with hp | hp
          · exact I.f p hp
          · simp only [List.mem_singleton] at hp
            subst hp
            exact Or.inr (Or.inr (Or.inr ⟨a, b, ha, hb, hal, rfl⟩)) }
    · cases h
theorem inv_step {P : PL} {R R' : Rgs} {q : ByteArray × ByteArray} (I : Inv P R) (hn : ∀ p ∈ P, p.1.toList ≠ q.1.toList) (h : takeP R q.1 q.2 = some R') : Inv (P ++ [q]) R' := by
  obtain ⟨k, v⟩ := q
  simp only at hn h
  rcases take_form h with ⟨a, ha, rfl, h2⟩ | ⟨a, b, ha, hb, rfl, h2⟩ | ⟨a, ha, rfl, h2⟩ | ⟨a, b, ha, hb, rfl, h2⟩
  · exact inv_v I ha hn h2
  · exact inv_e I ha hb hn h2
  · exact inv_q I ha hn h2
  · exact inv_r I ha hb hn h2
theorem inv_fold : ∀ (L P : PL) (R R' : Rgs), Inv P R → Asc (P ++ L) → regFold R L = some R' → Inv (P ++ L) R'
  | [], P, R, R', I, _, h => by simp [regFold] at h; subst h; simpa using I
  | q :: L, P, R, R', I, ha, h => by
    rw [regFold] at h
    split at h
    · cases h
    · rename_i R1 h1
      have I1 := inv_step I (asc_new ha) h1
      have := inv_fold L (P ++ [q]) R1 R' I1 (by simpa using ha) h
      simpa using this
theorem rd_nil (s : ByteArray) (h : s.size = 0) : rdD s = none := by
  have hl : s.toList = [] := List.length_eq_zero_iff.1 (by rw [size_list]; exact h)
  unfold rdD
  rw [if_pos (by omega), h, hl]
  show (if (0 : Nat) ≤ 1000000000 ∧ Lib.itoa ((0 : Nat) : Int) = [] then some 0 else none) = none
  rw [if_neg]
  rintro ⟨_, h2⟩
  rw [Lib.itoa_nonneg, Lib.decDigits] at h2
  simp at h2
theorem stand_pos {v : ByteArray} {s : Nat × Nat} (h : standV v = some s) : s.1 = 1 ∨ s.1 = 2 ∨ s.1 = 3 := by
  unfold standV at h
  split at h
  · simp at h; subst h; simp
  · split at h
    · simp at h; subst h; simp
    · split at h
      · cases hr : rdD (v.extract 1 v.size) with
        | none => rw [hr] at h; cases h
        | some r => rw [hr] at h; simp at h; subst h; simp
      · cases h
theorem joined_iff {Q : PL} {R : Rgs} (I : Inv Q R) (a : Nat) (h : a < 12) : joined R (a : Int) = (getP Q (k1 118 a)).isSome := by
  unfold joined
  rw [decide_eq_true (by omega), decide_eq_true (by omega), Bool.true_and, Bool.true_and, Int.toNat_natCast]
  have h1 := I.v a h
  cases hg : getP Q (k1 118 a) with
  | none => rw [hg] at h1; simp only at h1; rw [h1]; rfl
  | some v =>
    rw [hg] at h1
    simp only at h1
    have := stand_pos h1
    rw [decide_eq_true (by omega)]
    rfl
theorem rndF_ge (Q : PL) : ∀ (f m n : Nat), m ≤ n → n < m + f → (∀ i, m ≤ i → i < n → (getP Q (qk i)).isSome = true) → n ≤ rndF Q f m
  | 0, m, n, h1, h2, _ => by omega
  | f + 1, m, n, h1, h2, h => by
    rw [rndF]
    rcases Nat.lt_or_ge m n with hm | hm
    · rw [if_pos (h m (Nat.le_refl _) hm)]
      exact rndF_ge Q f (m + 1) n (by omega) (by omega) (fun i hi hn => h i (by omega) hn)
    · split
      · have : m + 1 ≤ rndF Q f (m + 1) ∨ f = 0 := by
          rcases Nat.eq_zero_or_pos f with h0 | h0
          · exact Or.inr h0
          · exact Or.inl (rndF_ge Q f (m + 1) (m + 1) (Nat.le_refl _) (by omega) (fun i hi hn => by omega))
        rcases this with h3 | h3
        · omega
        · subst h3; simp [rndF]; omega
      · omega
theorem rndF_some (Q : PL) : ∀ (f m i : Nat), m ≤ i → i < rndF Q f m → (getP Q (qk i)).isSome = true
  | 0, m, i, h1, h2 => by simp [rndF] at h2; omega
  | f + 1, m, i, h1, h2 => by
    rw [rndF] at h2
    split at h2
    · rename_i hs
      rcases Nat.eq_or_lt_of_le h1 with h | h
      · subst h; exact hs
      · exact rndF_some Q f (m + 1) i (by omega) h2
    · omega
theorem rndF_le (Q : PL) : ∀ (f m n : Nat), m ≤ n → getP Q (qk n) = none → rndF Q f m ≤ n
  | 0, m, n, h1, _ => by simp [rndF]; exact h1
  | f + 1, m, n, h1, h => by
    rw [rndF]
    split
    · rename_i hs
      rcases Nat.eq_or_lt_of_le h1 with h2 | h2
      · subst h2; rw [h] at hs; cases hs
      · exact rndF_le Q f (m + 1) n (by omega) h
    · omega
theorem rnds_some (Q : PL) (i : Nat) (h : i < rnds Q) : (getP Q (qk i)).isSome = true := rndF_some Q _ 0 i (Nat.zero_le _) h
theorem rnds_le_of {Q : PL} {n : Nat} (h : ∀ i, i < n → (getP Q (qk i)).isSome = true) : n ≤ rnds Q := by
  have := rounds_le Q n h
  exact rndF_ge Q _ 0 n (Nat.zero_le _) (by omega) (fun i _ hi => h i hi)
theorem inv_pool {Q : PL} {R : Rgs} (I : Inv Q R) (r : Nat) (hr : r ≤ 99) (h : r < R.rds.length) : (getP Q (qk r)).isSome = true ∧ poolP Q r = R.rds[r].1 := by
  have h1 := I.q r hr
  rw [List.getElem?_eq_getElem h] at h1
  show (getP Q (k1 113 r)).isSome = true ∧ bytesI (oT (getP Q (k1 113 r))) = _
  cases hg : getP Q (k1 113 r) with
  | none => rw [hg] at h1; cases h1
  | some v => rw [hg] at h1; simp at h1; exact ⟨rfl, by rw [h1]; rfl⟩
theorem inv_rnds {Q : PL} {R : Rgs} (I : Inv Q R) : (R.rds.length ≤ 6 ↔ rnds Q ≤ 6) ∧ (R.rds.length ≤ 6 → rnds Q = R.rds.length) := by
  have h1 : ∀ n, n ≤ R.rds.length → n ≤ rnds Q := fun n hn => rnds_le_of (fun i hi => (inv_pool I i (by have := I.ql; omega) (by omega)).1)
  have h2 : R.rds.length ≤ 6 → rnds Q ≤ R.rds.length := fun h => rndF_le Q _ 0 _ (Nat.zero_le _) (by
    have := I.q R.rds.length (by omega)
    rw [List.getElem?_eq_none (Nat.le_refl _)] at this
    show getP Q (k1 113 R.rds.length) = none
    cases hg : getP Q (k1 113 R.rds.length) with
    | none => rfl
    | some v => rw [hg] at this; cases this)
  refine ⟨⟨fun h => Nat.le_trans (h2 h) h, fun h => ?_⟩, fun h => Nat.le_antisymm (h2 h) (h1 _ (Nat.le_refl _))⟩
  have := h1 R.rds.length (Nat.le_refl _)
  omega
theorem keys_of (Q : PL) (n : Nat) : ∀ (L : PL), (∀ q ∈ L, keyOk Q n q.1 q.2 = true) → keysOk Q n L = true
  | [], _ => rfl
  | p :: r, h => by
    rw [keysOk, h p (by simp), keys_of Q n r (fun q hq => h q (by simp [hq]))]
    rfl
theorem getP_mem {Q : PL} (ha : Asc Q) {p : ByteArray × ByteArray} (h : p ∈ Q) : getP Q p.1 = some p.2 := by
  induction Q with
  | nil => simp at h
  | cons q Q ih =>
    rw [getP]
    have h2 := List.pairwise_cons.1 ha
    rcases List.mem_cons.1 h with rfl | h
    · simp
    · rw [if_neg]
      · exact ih h2.2 h
      · intro e
        have := h2.1 p h
        rw [eq_of_beq e, less_irrefl] at this
        cases this
theorem vOk_stand (n a : Nat) (v : ByteArray) : vOk n (some a) v = (decide (a < 12) && (match standV v with | none => false | some s => if s.1 = 3 then decide (s.2 < n) else true)) := by
  simp only [vOk]
  by_cases h12 : 12 ≤ a
  · rw [if_pos h12, decide_eq_false (by omega), Bool.false_and]
  · rw [if_neg h12, decide_eq_true (by omega), Bool.true_and]
    unfold standV
    by_cases h1 : (v.toList == [97]) = true
    · rw [if_pos h1, if_pos h1]; rfl
    · rw [if_neg h1, if_neg h1]
      by_cases h2 : (v.toList == [108]) = true
      · rw [if_pos h2, if_pos h2]; rfl
      · rw [if_neg h2, if_neg h2]
        by_cases h3 : byteAt v 0 = 112
        · rw [if_pos h3]
          by_cases h4 : v.size < 2
          · rw [if_pos h4, rd_nil _ (by rw [ByteArray.size_extract]; omega)]; rfl
          · rw [if_neg h4, if_neg (by simp [h3])]
            cases rdD (v.extract 1 v.size) <;> rfl
        · rw [if_neg h3]
          by_cases h4 : v.size < 2
          · rw [if_pos h4]
          · rw [if_neg h4, if_pos h3]
theorem keyOk_v (Q : PL) (n a : Nat) (v : ByteArray) (h : a ≤ 99) : keyOk Q n (k1 118 a) v = vOk n (some a) v := by
  unfold keyOk
  rw [if_pos (k1_size _ a h), if_pos (by rw [k1_byte _ a h]; rfl), k1_num _ a h]
theorem keyOk_q (Q : PL) (n a : Nat) (v : ByteArray) (h : a ≤ 99) : keyOk Q n (k1 113 a) v = decide (a < n) := by
  unfold keyOk
  rw [if_pos (k1_size _ a h), if_neg (by rw [k1_byte _ a h]; decide), if_pos (by rw [k1_byte _ a h]; rfl), k1_num _ a h]
  rfl
theorem keyOk_r (Q : PL) (n a b : Nat) (v : ByteArray) (h : a ≤ 99) (hb : b ≤ 99) : keyOk Q n (k2 114 a b) v = decide (a < n) := by
  obtain ⟨e1, e2⟩ := k2_num 114 a b h hb
  unfold keyOk
  rw [k2_size _ a b h hb] at e2 ⊢
  rw [if_neg (by omega), if_pos rfl, if_neg (by rw [k2_byte _ a b h hb]; decide), if_pos (by rw [k2_byte _ a b h hb]; rfl), e1, e2, num_tw a h, num_tw b hb]
  rfl
theorem keyOk_e (Q : PL) (n a b : Nat) (v : ByteArray) (h : a ≤ 99) (hb : b ≤ 99) : keyOk Q n (k2 101 a b) v = eOk (getP Q (k1 118 a)).isSome (getP Q (k1 118 b)).isSome (some a) (some b) v := by
  obtain ⟨e1, e2⟩ := k2_num 101 a b h hb
  unfold keyOk
  rw [k2_size _ a b h hb] at e2 ⊢
  rw [if_neg (by omega), if_pos rfl, if_pos (by rw [k2_byte _ a b h hb]; rfl), e1, e2, num_tw a h, num_tw b hb]
  rfl
theorem eOk_is (h1 h2 : Bool) (a b : Nat) (v : ByteArray) (hab : a < b) (hs : v.size = 3) : eOk h1 h2 (some a) (some b) v = (h1 && (h2 && (decide (byteAt v 0 ≤ 50) && (decide (byteAt v 1 ≤ 50) && decide (byteAt v 2 ≤ 50))))) := by
  simp only [eOk]
  rw [if_neg (by omega), if_neg (by simp [hs])]
theorem keys_iff {Q : PL} {R : Rgs} (I : Inv Q R) (ha : Asc Q) : keysOk Q R.rds.length Q = true ↔ (linksOk R = true ∧ membersOk R = true) := by
  constructor
  · intro h
    have hk := keys_all Q _ Q h
    refine ⟨(linksOk_iff R).2 (fun a h12 b hb12 => ?_), (membersOk_iff R).2 (fun a h12 h3 => ?_)⟩
    · by_cases hab : a < b ∧ b < 12
      · have he := I.e a b hab.1 hab.2
        unfold lkOk
        cases hg : getP Q (k2 101 a b) with
        | none => rw [hg] at he; rw [he]; rfl
        | some v =>
          rw [hg] at he
          rw [he]
          obtain ⟨p, hp, hp1, hp2⟩ := get_pair Q _ v hg
          have h1 := hk p hp
          rw [hp1, hp2, keyOk_e Q _ a b v (by omega) (by omega)] at h1
          have hs : v.size = 3 := by
            simp only [eOk] at h1
            split at h1
            · cases h1
            · split at h1
              · cases h1
              · rename_i hh; omega
          rw [eOk_is _ _ a b v hab.1 hs] at h1
          show (joined R a && (joined R b && (decide (byteAt v 0 ≤ 50) && (decide (byteAt v 1 ≤ 50) && decide (byteAt v 2 ≤ 50))))) = true
          rw [joined_iff I a (by omega), joined_iff I b (by omega)]
          exact h1
      · unfold lkOk
        rw [I.e0 a b hab]
    · have hv := I.v a h12
      cases hg : getP Q (k1 118 a) with
      | none => rw [hg] at hv; simp only at hv; rw [hv] at h3; cases h3
      | some v =>
        rw [hg] at hv
        simp only at hv
        obtain ⟨p, hp, hp1, hp2⟩ := get_pair Q _ v hg
        have h1 := hk p hp
        rw [hp1, hp2, keyOk_v Q _ a v (by omega), vOk_stand, hv] at h1
        simp only [h3, if_true, Bool.and_eq_true, decide_eq_true_eq] at h1
        exact h1.2
  · rintro ⟨hl, hm⟩
    have hl := (linksOk_iff R).1 hl
    have hm := (membersOk_iff R).1 hm
    refine keys_of Q _ Q (fun p hp => ?_)
    have hg := getP_mem ha hp
    obtain ⟨k, v⟩ := p
    rcases I.f _ hp with ⟨a, h12, rfl, hs⟩ | ⟨a, b, hab, hb, rfl, hs⟩ | ⟨a, h99, hn, rfl⟩ | ⟨a, b, h99, hb, hn, rfl⟩
    · simp only at hg hs ⊢
      have hv := I.v a h12
      rw [hg] at hv
      simp only at hv
      rw [keyOk_v Q _ a v (by omega), vOk_stand, hv, decide_eq_true h12, Bool.true_and]
      simp only
      split
      · rename_i h3
        exact decide_eq_true (hm a h12 h3)
      · rfl
    · simp only at hg hs ⊢
      have he := I.e a b hab hb
      rw [hg] at he
      have h1 := hl a (by omega) b hb
      unfold lkOk at h1
      rw [he] at h1
      change (joined R a && (joined R b && (decide (byteAt v 0 ≤ 50) && (decide (byteAt v 1 ≤ 50) && decide (byteAt v 2 ≤ 50))))) = true at h1
      rw [joined_iff I a (by omega), joined_iff I b (by omega)] at h1
      rw [keyOk_e Q _ a b v (by omega) (by omega), eOk_is _ _ a b v hab hs]
      exact h1
    · simp only
      rw [keyOk_q Q _ a v h99]
      exact decide_eq_true hn
    · simp only
      rw [keyOk_r Q _ a b v h99 hb]
      exact decide_eq_true hn
theorem pool_iff {Q : PL} {R : Rgs} (I : Inv Q R) : ∀ (K : List Int) (p : Option Int), (∀ x ∈ K, 0 ≤ x) → poolOk Q p K = (decide (∀ i ∈ K, joined R i = true) && Gr.chainFrom p K)
  | [], p, _ => by
    cases p <;> simp [poolOk, Gr.chainFrom]
  | x :: r, p, h => by
    have hcf : Gr.chainFrom p (x :: r) = (aheadI p x && Gr.chainFrom (some x) r) := by cases p <;> rfl
    rw [poolOk, hcf, pool_iff I r (some x) (fun y hy => h y (by simp [hy]))]
    have hj : (decide (x < 12) && (getP Q (vk x)).isSome) = joined R x := by
      have h0 := h x (by simp)
      obtain ⟨n, rfl⟩ := Int.eq_ofNat_of_zero_le h0
      by_cases h12 : n < 12
      · rw [joined_iff I n h12, decide_eq_true (by omega), Bool.true_and]
        rfl
      · unfold joined
        rw [decide_eq_false (by omega), Bool.false_and, Bool.false_and, Bool.and_false]
    have ha : decide (∀ i ∈ x :: r, joined R i = true) = (joined R x && decide (∀ i ∈ r, joined R i = true)) := by
      rw [Bool.eq_iff_iff]; simp
    rw [ha, ← hj]
    generalize decide (x < 12) = b1
    generalize (getP Q (vk x)).isSome = b2
    generalize aheadI p x = b3
    generalize decide (∀ i ∈ r, joined R i = true) = b4
    generalize Gr.chainFrom (some x) r = b5
    cases b1 <;> cases b2 <;> cases b3 <;> cases b4 <;> cases b5 <;> rfl
theorem parts_iff (Q : PL) (r : Nat) : ∀ (L : List ByteArray) (j : Nat), partsOk Q r j L = true ↔ ∀ i (h : i < L.length), j + i ≤ 99 ∧ getP Q (rk r (j + i)) = some L[i]
  | [], j => by simp [partsOk]
  | p :: L, j => by
    rw [partsOk]
    simp only [Bool.and_eq_true, decide_eq_true_eq]
    rw [parts_iff Q r L (j + 1)]
    constructor
    · rintro ⟨h1, h2, h3, h4⟩ i hi
      cases i with
      | zero =>
        refine ⟨h1, ?_⟩
        cases hg : getP Q (rk r j) with
        | none => rw [hg] at h2; cases h2
        | some v => rw [hg] at h3; simp only [oT, Option.getD_some] at h3; simp [ba_ext (eq_of_beq h3)]
      | succ i =>
        have := h4 i (by simpa using hi)
        rw [show j + (i + 1) = j + 1 + i by omega]
        exact this
    · intro h
      have h0 := h 0 (by simp)
      simp only [Nat.add_zero, List.getElem_cons_zero] at h0
      refine ⟨h0.1, by rw [h0.2]; rfl, by rw [h0.2]; simp [oT], fun i hi => ?_⟩
      have := h (i + 1) (by simp; omega)
      rw [show j + 1 + i = j + (i + 1) by omega]
      exact this
theorem form_size {n : Nat} {p : ByteArray × ByteArray} (h : FormK n p) : p.1.size = 3 ∨ p.1.size = 5 := by
  rcases h with ⟨a, h1, h2, _⟩ | ⟨a, b, h1, h2, h3, _⟩ | ⟨a, h1, h2, h3⟩ | ⟨a, b, h1, h2, h3, h4⟩
  · rw [h2]; exact Or.inl (k1_size _ a (by omega))
  · rw [h3]; exact Or.inr (k2_size _ a b (by omega) (by omega))
  · rw [h3]; exact Or.inl (k1_size _ a h1)
  · rw [h4]; exact Or.inr (k2_size _ a b h1 h2)
theorem tw_hundred : (tw 100).size = 3 := by
  unfold tw
  rw [if_neg (by omega), Lib.itoa_nonneg]
  rw [Lib.decDigits, dif_neg (by omega), Lib.decDigits, dif_neg (by omega), Lib.decDigits, dif_pos (by omega)]
  rfl
theorem round_iff {Q : PL} {R : Rgs} (I : Inv Q R) (r : Nat) (hr : r ≤ 99) (h : r < R.rds.length) : roundOk Q r = rdOk R R.rds[r] := by
  obtain ⟨_, hp⟩ := inv_pool I r hr h
  have ht : textP Q r = joinB R.rds[r].2 := by
    have := I.t r hr
    rw [List.getElem?_eq_getElem h] at this
    exact this.symm
  have hri : ∀ i, i ≤ 99 → getP Q (rk r i) = R.rds[r].2[i]? := fun i hi => by
    have := I.r r i hr hi
    rw [List.getElem?_eq_getElem h] at this
    exact this.symm
  have hlen := I.rl _ (List.getElem_mem h)
  have hb := pool_bytes Q r
  unfold roundOk rdOk poolR
  rw [pool_iff I _ _ (fun x hx => (hb x hx).1), hp, ht]
  generalize R.rds[r] = x at *
  obtain ⟨K, L⟩ := x
  simp only at *
  have hpart : (partsOk Q r 0 (Gr.partsT (joinB L)) && !(getP Q (rk r (Gr.partsT (joinB L)).length)).isSome) = decide (Gr.partsT (joinB L) = L) := by
    rw [Bool.eq_iff_iff]
    simp only [Bool.and_eq_true, decide_eq_true_eq, parts_iff, Nat.zero_add, Bool.not_eq_true', Option.isSome_eq_false_iff, Option.isNone_iff_eq_none]
    generalize Gr.partsT (joinB L) = M
    constructor
    · rintro ⟨h1, h2⟩
      apply List.ext_getElem?
      intro i
      rcases Nat.lt_or_ge i M.length with hi | hi
      · obtain ⟨h3, h4⟩ := h1 i hi
        rw [hri i h3] at h4
        rw [h4, List.getElem?_eq_getElem hi]
      · rw [List.getElem?_eq_none hi]
        by_cases hM : M.length ≤ 99
        · rw [hri _ hM] at h2
          have := List.getElem?_eq_none_iff.1 h2
          rw [List.getElem?_eq_none (by omega)]
        · rw [List.getElem?_eq_none (by omega)]
    · rintro rfl
      refine ⟨fun i hi => ⟨by omega, by rw [hri i (by omega), List.getElem?_eq_getElem hi]⟩, ?_⟩
      by_cases hM : M.length ≤ 99
      · rw [hri _ hM, List.getElem?_eq_none (Nat.le_refl _)]
      · have hM' : M.length = 100 := by omega
        refine getP_none (fun p hpQ e => ?_)
        have hs := form_size (I.f p hpQ)
        have hz : (rk r M.length).size = p.1.size := by rw [← size_list, ← size_list, e]
        rw [hM'] at hz
        unfold rk at hz
        rw [ByteArray.size_append, ByteArray.size_append, tw_hundred] at hz
        have h2 : (tw r).size = 2 := by rw [← size_list, tw_list r hr]; rfl
        have h1 : (ByteArray.mk #[114]).size = 1 := rfl
        omega
  rw [← hpart]
  generalize partsOk Q r 0 (Gr.partsT (joinB L)) = b1
  generalize (getP Q (rk r (Gr.partsT (joinB L)).length)).isSome = b2
  generalize Gr.rcOk (joinB L) = b3
  generalize decide ((Gr.rcV (joinB L)).s = (K.length : Int)) = b4
  generalize decide (K.length ≤ 9) = b5
  generalize decide (∀ i ∈ K, joined R i = true) = b6
  generalize Gr.chainFrom none K = b7
  cases b1 <;> cases b2 <;> cases b3 <;> cases b4 <;> cases b5 <;> cases b6 <;> cases b7 <;> rfl
theorem rounds_iff (Q : PL) : ∀ (f r : Nat), roundsOk Q f r = true ↔ ∀ i, i < f → roundOk Q (r + i) = true
  | 0, r => by simp [roundsOk]
  | f + 1, r => by
    rw [roundsOk, Bool.and_eq_true, rounds_iff Q f (r + 1)]
    constructor
    · rintro ⟨h1, h2⟩ i hi
      cases i with
      | zero => exact h1
      | succ i => rw [show r + (i + 1) = r + 1 + i by omega]; exact h2 i (by omega)
    · intro h
      exact ⟨h 0 (by omega), fun i hi => by rw [show r + 1 + i = r + (i + 1) by omega]; exact h (i + 1) (by omega)⟩
theorem sum_parts (Q : PL) (L : List (List Int × List ByteArray)) : ∀ (f r : Nat), f + r = L.length → (∀ i (h : i < L.length), r ≤ i → (Gr.partsT (textP Q i)).length = L[i].2.length) → partsSum Q f r = partsN (L.drop r)
  | 0, r, h, _ => by rw [List.drop_eq_nil_of_le (by omega)]; rfl
  | f + 1, r, h, hh => by
    have hl : r < L.length := by omega
    rw [partsSum, sum_parts Q L f (r + 1) (by omega) (fun i hi hr => hh i hi (by omega)), hh r hl (Nat.le_refl _), List.drop_eq_getElem_cons hl]
    unfold partsN
    rw [List.map_cons, List.sum_cons]
theorem checks_iff {Q : PL} {R : Rgs} (I : Inv Q R) (ha : Asc Q) : checks R = (decide (rnds Q ≤ 6) && (keysOk Q (rnds Q) Q && (roundsOk Q (rnds Q) 0 && decide (rCount Q = partsSum Q (rnds Q) 0)))) := by
  obtain ⟨hr1, hr2⟩ := inv_rnds I
  by_cases h6 : R.rds.length ≤ 6
  · have hr := hr2 h6
    rw [hr, decide_eq_true h6, Bool.true_and]
    rw [Bool.eq_iff_iff]
    unfold checks roundsR
    rw [decide_eq_true h6, Bool.and_true]
    simp only [Bool.and_eq_true, keys_iff I ha, decide_eq_true_eq, rounds_iff, Nat.zero_add]
    constructor
    · rintro ⟨h1, h2, h3⟩
      have hro : ∀ i, i < R.rds.length → roundOk Q i = true := fun i hi => by rw [round_iff I i (by omega) hi]; exact h2 _ (List.getElem_mem hi)
      refine ⟨⟨h1, h3⟩, hro, ?_⟩
      rw [I.c, sum_parts Q R.rds R.rds.length 0 (by omega) (fun i hi _ => ?_), List.drop_zero]
      have := h2 _ (List.getElem_mem hi)
      unfold rdOk at this
      simp only [Bool.and_eq_true, decide_eq_true_eq] at this
      have ht := I.t i (by omega)
      rw [List.getElem?_eq_getElem hi] at ht
      rw [← ht]
      exact congrArg List.length this.1.1
    · rintro ⟨⟨h1, h3⟩, h2, _⟩
      refine ⟨h1, fun x hx => ?_, h3⟩
      obtain ⟨i, hi, rfl⟩ := List.mem_iff_getElem.1 hx
      rw [← round_iff I i (by omega) hi]
      exact h2 i hi
  · have : ¬ rnds Q ≤ 6 := fun h => h6 (hr1.2 h)
    unfold checks roundsR
    rw [decide_eq_false h6, decide_eq_false this]
    simp
end Rg
end Go.Proofs.YtihnaddfpmjpaaaGreatDoor
