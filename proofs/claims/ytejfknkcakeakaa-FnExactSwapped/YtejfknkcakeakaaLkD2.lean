/-
  spec.l17Has; that the parts of more than one vertex of the swapped edges are what the program tells.
-/
import Derived.Test.YtejfknkcakeakaaLkD1
namespace Go.Proofs.Ytejfknkcakeakaa
namespace Lk
open Go.RowKit
open Gr (Blk Kept EdgeI CoupleI GrAt couplesAt GBox below_new graphOk graph_sound edgeOk_iff matchOk match_sound hit)

theorem has_next (M : List CoupleI) (x : CoupleI) (k : Nat) (h : k < M.length) : hasC (M.take (k + 1)) x = (hasC (M.take k) x || decide (M[k] = x)) := by
  unfold hasC
  rw [List.take_succ_eq_append_getElem h, List.any_append]
  simp

theorem has_mem (M : List CoupleI) (x : CoupleI) (k : Nat) (h : k < M.length) (e : M[k] = x) : hasC M x = true := (hasC_iff M x).2 (e ▸ List.getElem_mem h)

set_option maxRecDepth 100000 in
set_option maxHeartbeats 2000000 in
theorem has_any (a : Option Addr) (n c B : Nat) (M : List CoupleI) (x0 x1 : Int) (hn : n ≤ 1048576) (w : World) (hB : B ≤ w.heap.size) (hM : couplesAt w a n B M) :
    Calls Try.prog 66 #[.slice a n c, .agg #[.int .i64 x0, .int .i64 x1]] w fun e w' => e = .returned (.bool (hasC M ⟨x0, x1⟩)) ∧ Below w.heap.size w w' := by
  obtain ⟨hL, hc⟩ := hM
  have HC := hide hc
  have HL := hide hL
  have HNX := hide (fun k h => has_next M ⟨x0, x1⟩ k h)
  have HME := hide (fun k h e => has_mem M ⟨x0, x1⟩ k h e)
  have HEND : Hid (hasC (M.take n) ⟨x0, x1⟩ = hasC M ⟨x0, x1⟩) := by show _ = _; rw [← hL, List.take_length]
  have H0 : Hid (hasC (M.take 0) ⟨x0, x1⟩ = false) := rfl
  generalize hasC M ⟨x0, x1⟩ = R at HME HEND ⊢
  clear hc hL
  go_enter Try.func66, Try.ntmps66
  go_wp2_with fail
  obtain ⟨V1, hV1⟩ : ∃ W, W = w.alloc (Obj.cells #[Value.int .i64 x0, Value.int .i64 x1] 88) := ⟨_, rfl⟩
  rw [← hV1]
  have b1 : Below w.heap.size w V1 := by rw [hV1]; exact below_new _ _
  have u1 : Blk V1 w.heap.size #[Value.int .i64 x0, Value.int .i64 x1] 88 := by rw [hV1]; exact Gr.Blk.new0
  have d0 := u1.cell 0 _ rfl
  have d1 := u1.cell 1 _ rfl
  have sz : V1.heap.size = w.heap.size + 1 := by rw [hV1]; simp
  clear hV1 u1
  go_loopw [5] (fun i wr => ∃ k : Nat, i = .int .i64 (k : Int) ∧ k ≤ n ∧ Hid (hasC (M.take k) ⟨x0, x1⟩ = false) ∧ Below V1.heap.size V1 wr) (fun i _ => n - (intOf i).toNat)
  case atStart => exact ⟨0, rfl, Nat.zero_le _, H0, Below.refl _ _⟩
  case round =>
    obtain ⟨k, rfl, hk, HNO, hb⟩ := hrel
    have hbw : Below w.heap.size w wr := b1.trans (hb.mono (by omega))
    by_cases hlt : k < n
    · have hkM : k < M.length := by have := unhide HL; omega
      obtain ⟨b, off, rfl, hbB, c1, c2⟩ := unhide HC k hkM
      rw [← hbw.cell (p := ⟨b, off + k * 2, none⟩) (by simp; omega)] at c1
      rw [← hbw.cell (p := ⟨b, off + k * 2 + 1, none⟩) (by simp; omega)] at c2
      rw [← hb.cell (p := ⟨w.heap.size, 0, none⟩) (by simp; omega)] at d0
      rw [← hb.cell (p := ⟨w.heap.size, 1, none⟩) (by simp; omega)] at d1
      have HNX' := hide (unhide HNX k hkM)
      have HME' := hide (unhide HME k hkM)
      generalize M[k] = y at c1 c2 HNX' HME'
      obtain ⟨y0, y1⟩ := y
      simp only at c1 c2
      have hx2 : (k : Int) < (n : Int) := by omega
      have hx0 : (0 : Int) ≤ (k : Int) := by omega
      have SZ := hide sz
      clear sz
      by_cases e0 : y0 = x0
      · subst e0
        by_cases e1 : y1 = x1
        · subst e1
          have hR := unhide HME' rfl
          subst hR
          go_upto_region 4 with fail
          go_quiet (fail)
          go_wp2
          go_ret
          exact ⟨rfl, below_drewN hbw _⟩
        · have t1 : (y1 == x1) = false := by simp [e1]
          have HNO' : Hid (hasC (M.take (k + 1)) ⟨y0, x1⟩ = false) := by show _ = _; rw [unhide HNX', unhide HNO, decide_eq_false (by simp [e1])]; rfl
          clear e1
          go_upto_region 4 with fail
          go_quiet (fail)
          go_wp2
          go_roundw
          case rel => exact ⟨k + 1, by go_num, by omega, HNO', below_drewN hb _⟩
          case measure => simp [intOf]; omega
      · have t0 : (y0 == x0) = false := by simp [e0]
        have HNO' : Hid (hasC (M.take (k + 1)) ⟨x0, x1⟩ = false) := by show _ = _; rw [unhide HNX', unhide HNO, decide_eq_false (by simp [e0])]; rfl
        clear e0
        go_upto_region 4 with fail
        go_quiet (fail)
        go_wp2
        go_roundw
        case rel => exact ⟨k + 1, by go_num, by omega, HNO', below_drewN hb _⟩
        case measure => simp [intOf]; omega
    · obtain rfl : n = k := by omega
      have hR : R = false := by rw [← unhide HEND]; exact unhide HNO
      subst hR
      go_wp2_with fail
      go_ret
      exact ⟨rfl, hbw⟩

/-- The rows of the swapped edges, those of more than one vertex. -/
theorem swap_rows {s : Int} {Q : List EdgeI} {M N : List CoupleI} (hM : matchOk s Q M = true) (hN : matchOk s Q N = true) :
    (rowsS (swapQ Q M N) s.toNat []).filter (fun r => decide (1 < r.length)) = swapR s Q M N := by
  have hg := (match_sound hM).1
  have hq := swap_ok hg M N
  obtain ⟨s0, s9⟩ := ok_size hg
  unfold swapR
  rw [if_pos ⟨hM, hN⟩, rows_same hq, swp_is hM hN]
  unfold partsR
  have hin : ∀ u w, lnkF (swapQ Q M N) u w = true → u < s.toNat ∧ w < s.toNat := fun u w h => by
    rw [lnkF_any (apart_of hq), List.any_eq_true] at h
    obtain ⟨e, he, hh⟩ := h
    have h1 := (edgeOk_iff s e).1 ((graph_sound hq).2.2.1 e he)
    unfold hit at hh
    simp only [Bool.or_eq_true, Bool.and_eq_true, beq_iff_eq] at hh
    omega
  have hleft : ∀ u, u < s.toNat → leftF s.toNat [] u = true := fun u hu => by rw [left_is hu]; rfl
  rw [prts_ends (lnkF_swap (apart_of hq)) (fun u => by
    cases h : lnkF (swapQ Q M N) u u
    · rfl
    · rw [lnkF_any (apart_of hq), List.any_eq_true] at h
      obtain ⟨e, he, hh⟩ := h
      have h1 := (apart_of hq).1 e he
      unfold hit at hh
      simp only [Bool.or_eq_true, Bool.and_eq_true, beq_iff_eq] at hh
      omega) (fun u w h => by have := hin u w h; omega) (List.range' 0 9) (leftF s.toNat []) (fun v hv => by have := List.mem_range'_1.1 hv; omega) (fun u w h _ _ => hleft w (hin u w h).2)]
  have e : (fun j => leftF s.toNat [] j && endF (lnkF (swapQ Q M N)) j) = endF (lnkF (swapQ Q M N)) := by
    funext j
    cases h : endF (lnkF (swapQ Q M N)) j
    · simp
    · obtain ⟨u, _, hF⟩ := (endF_iff _ _).1 h
      rw [hleft j (hin j u hF).1]
      rfl
  rw [e]

theorem dist_add {vs us : List Value} {k : Nat} (h : Dist vs) (hk : k < vs.length) (hus : Dist us) (hm : ∀ u ∈ us, ∃ j, ∃ hj : j < vs.length, j < k ∧ u = vs[j]) : Dist (us ++ [vs[k]]) := by
  have key : ∀ (a : Nat) (ha : a < us.length) g, us[a].ownBlock = some g → vs[k].ownBlock = some g → False := fun a ha g h1 h2 => by
    obtain ⟨j, hj, hjk, e⟩ := hm _ (List.getElem_mem ha)
    rw [e] at h1
    have := h j k hj hk g h1 h2
    omega
  intro i j hi hj g hgi hgj
  by_cases hi' : i < us.length
  · rw [List.getElem_append_left hi'] at hgi
    by_cases hj' : j < us.length
    · rw [List.getElem_append_left hj'] at hgj
      exact hus i j hi' hj' g hgi hgj
    · have e : j = us.length := by simp at hj; omega
      subst e
      have e1 : (us ++ [vs[k]])[us.length] = vs[k] := by simp
      rw [e1] at hgj
      exact (key i hi' g hgi hgj).elim
  · have e : i = us.length := by simp at hi; omega
    subst e
    have e1 : (us ++ [vs[k]])[us.length] = vs[k] := by simp
    rw [e1] at hgi
    by_cases hj' : j < us.length
    · rw [List.getElem_append_left hj'] at hgj
      exact (key j hj' g hgj hgi).elim
    · simp at hj; omega

end Lk
end Go.Proofs.Ytejfknkcakeakaa
