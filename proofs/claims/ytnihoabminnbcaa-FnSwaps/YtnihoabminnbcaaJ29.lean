/-
 LkD1, LkD2, LkD3.
-/
import Derived.Test.YtnihoabminnbcaaJ27
import Derived.Test.YtnihoabminnbcaaJ28
import Derived.Test.YtnihoabminnbcaaJ24
import Derived.Test.YtnihoabminnbcaaJ3
import Derived.Test.YtnihoabminnbcaaJ18
import Derived.Test.YtnihoabminnbcaaJ12
import Derived.Test.YtnihoabminnbcaaJ8
import Derived.Test.YtnihoabminnbcaaJ2
import Derived.Deep.DeepCutAuto
import Derived.Deep.RegionHeld3
namespace Go.Proofs.Ytnihoabminnbcaa
namespace Lk
open Go.RowKit
open Gr (Blk Kept EdgeI CoupleI GrAt CoAt couplesAt GBox below_new InOwn InAt own_below own_lower intsV intsAt_of_own graphOk matchOk match_sound implMatch_any setMany setMany_all below_setCells)
/-- What Swapped tells. -/
def swapR (s : Int) (Q : List EdgeI) (M N : List CoupleI) : List (List Int) := if matchOk s Q M = true ∧ matchOk s Q N = true then (prts (swpF M N) (List.range' 0 9) (endF (swpF M N))).map fun p => setTo p 9 else []
theorem swap_len (s : Int) (Q : List EdgeI) (M N : List CoupleI) : ssz (swapR s Q M N) ≤ 1048576 := by
  unfold ssz swapR
  split
  · have h1 : (prts (swpF M N) (List.range' 0 9) (endF (swpF M N))).length ≤ 9 := by have := prts_length (swpF M N) (List.range' 0 9) (endF (swpF M N)); simpa using this
    have h2 : ∀ (L : List (Nat → Bool)), (L.map fun p => setTo p 9).flatten.length ≤ 9 * L.length := fun L => by
      induction L with
      | nil => simp
      | cons p r ih =>
        have := setTo_length p 9
        simp only [List.map_cons, List.flatten_cons, List.length_append, List.length_cons]
        omega
    have := h2 (prts (swpF M N) (List.range' 0 9) (endF (swpF M N)))
    rw [List.length_map]
    omega
  · simp
/-- The table while the two lists are gone through. -/
def stF (M N : List CoupleI) : Nat → Nat → Nat → Bool
  | 0 => cpl (fun _ _ => false) M 0
  | 1 => cpl (cpl (fun _ _ => false) M M.length) N 0
  | _ => swpF M N
set_option maxRecDepth 100000 in
set_option maxHeartbeats 8000000 in
theorem implSwap_gen (B : Nat) (v : Value) (s : Int) (Q : List EdgeI) (u : Value) (M : List CoupleI) (x : Value) (N : List CoupleI) (h1 : Q.length ≤ 1048576) (h2 : M.length ≤ 1048576) (h3 : N.length ≤ 1048576) (w : World) (hB : B ≤ w.heap.size) (hv : GrAt w v B s Q) (hu : CoAt w u B M) (hx : CoAt w x B N) :
    Calls Try.prog 7 #[v, u, x] w fun e w' => (∃ d, e = .returned d ∧ SsOwn w' w.heap.size d (swapR s Q M N)) ∧ Below w.heap.size w w' := by
  obtain ⟨am, cm, rfl, hM⟩ := hu
  obtain ⟨an, cn, rfl, hN⟩ := hx
  have OM := hide (fun w1 (hb : Below w.heap.size w w1) => implMatch_any v B s Q am M.length cm M h1 h2 w1 (by have := hb.size; omega) (hv.below hb hB) (hM.below hb hB))
  have ON := hide (fun w1 (hb : Below w.heap.size w w1) => implMatch_any v B s Q an N.length cn N h1 h3 w1 (by have := hb.size; omega) (hv.below hb hB) (hN.below hb hB))
  have HAM : Hid (matchOk s Q M = true → ApartC M) := fun h => apartC_of h
  have HAN : Hid (matchOk s Q N = true → ApartC N) := fun h => apartC_of h
  have HR : Hid (matchOk s Q M = true → matchOk s Q N = true → swapR s Q M N = (prts (swpF M N) (List.range' 0 9) (endF (swpF M N))).map fun p => setTo p 9) := fun h k => by unfold swapR; rw [if_pos ⟨h, k⟩]
  have HR0 : Hid (matchOk s Q M = false ∨ matchOk s Q N = false → swapR s Q M N = []) := fun h => by
    unfold swapR
    rw [if_neg]
    rintro ⟨h1, h2⟩
    rcases h with h | h
    · rw [h] at h1; cases h1
    · rw [h] at h2; cases h2
  have EN := hide (fun F T W hW => ends_any F T W hW)
  have PA := hide (fun F f T W hW => parts_any F f T W hW)
  have LL := hide (fun Ps hl v B0 W hv => lists_any v B0 Ps hl W hv)
  have HPL := hide (fun F f => prts_length F (List.range' 0 9) f)
  obtain ⟨a, n', c, rfl, _⟩ := hv
  generalize swapR s Q M N = V at HR HR0 ⊢
  generalize matchOk s Q M = gm at OM HAM HR HR0
  generalize matchOk s Q N = gn at ON HAN HR HR0
  have HCM := hide hM.2
  have HCN := hide hN.2
  obtain ⟨lm, hlm⟩ : ∃ lm, lm = M.length := ⟨_, rfl⟩
  obtain ⟨ln, hln⟩ : ∃ ln, ln = N.length := ⟨_, rfl⟩
  have HLM := hide hlm
  have HLN := hide hln
  rw [← hlm] at OM h2 ⊢
  rw [← hln] at ON h3 ⊢
  have hzt := zero_tb
  have HT0 : Hid ((tb fun _ _ => false) = tb (cpl (fun _ _ => false) M 0)) := by show _ = _; rw [cpl_zero]
  generalize (tb fun _ _ => false) = ZT at hzt HT0
  clear hM hN h1 hlm hln
  go_enter Try.func7, Try.ntmps7
  go_wp2_with fail
  obtain ⟨V1, hV1⟩ : ∃ W, W = w.alloc (Obj.cells #[Value.int .i64 s, Value.slice a n' c] 26) := ⟨_, rfl⟩
  rw [← hV1]
  have x1 : GBox V1 w.heap.size s (.slice a n' c) := by rw [hV1]; exact GBox.new _ _ _
  have b1 : Below w.heap.size w V1 := by rw [hV1]; exact below_new _ _
  clear hV1
  refine (unhide OM V1 b1).mono ?_
  rintro e w2 ⟨rfl, hb2⟩
  have x2 := x1.below hb2
  have b2 := b1.trans (hb2.mono b1.size)
  obtain ⟨p0, p1⟩ := x2.cells
  clear hb2 x1 OM b1
  cases gm
  · have hR := unhide HR0 (.inl rfl)
    subst hR
    go_wp2
    go_ret
    exact ⟨⟨_, rfl, ss_nil _ _⟩, b2⟩
  · go_wp2_with fail
    refine (unhide ON w2 b2).mono ?_
    rintro e w3 ⟨rfl, hb3⟩
    have b3 := b2.trans (hb3.mono b2.size)
    clear hb3 ON p0 p1 x2
    cases gn
    · have hR := unhide HR0 (.inr rfl)
      subst hR
      go_wp2
      go_ret
      exact ⟨⟨_, rfl, ss_nil _ _⟩, b3⟩
    · have hR := unhide HR (by first | rfl | trivial) (by first | rfl | trivial)
      have aM := hide (unhide HAM (by first | rfl | trivial))
      have aN := hide (unhide HAN (by first | rfl | trivial))
      have HRV := hide hR
      clear hR HR HR0 HAM HAN
      go_wp2_with fail
      obtain ⟨V4, hV4⟩ : ∃ W, W = w3.alloc (Obj.cells ZT 62) := ⟨_, rfl⟩
      obtain ⟨V5, hV5⟩ : ∃ W, W = V4.alloc (Obj.cells #[Value.slice am lm cm, Value.slice an ln cn] 27) := ⟨_, rfl⟩
      rw [← hV4, ← hV5]
      have b5 : Below w.heap.size w V5 := by rw [hV5, hV4]; exact (b3.alloc b3.size _).alloc (by simp; have := b3.size; omega) _
      have hz3 := b3.size
      have HT5 : Hid (Blk V5 w3.heap.size (tb (cpl (fun _ _ => false) M 0)) 62) := by show Blk _ _ _ _; rw [← unhide HT0, hV5, hV4]; exact Gr.Blk.new0.alloc
      have HP5 : Hid (Blk V5 (w3.heap.size + 1) #[Value.slice am lm cm, Value.slice an ln cn] 27) := by show Blk _ _ _ _; rw [hV5, hV4]; exact Gr.Blk.new1
      clear hV4 hV5 b3
      generalize w3.heap.size = T at HT5 HP5 hz3
      go_loopw [26] (fun ix wr => ∃ (i : Nat) (x : Int), ix = .int .i64 x ∧ Hid (x = (i : Int)) ∧ i ≤ 2 ∧ Hid (Blk wr T (tb (stF M N i)) 62) ∧ Hid (Blk wr (T + 1) #[Value.slice am lm cm, Value.slice an ln cn] 27) ∧ Below w.heap.size w wr) (fun ix _ => (2 - intOf ix).toNat)
      case atStart => exact ⟨0, 0, rfl, rfl, by omega, HT5, HP5, b5⟩
      case round =>
        clear HT5 HP5 b5
        obtain ⟨i, x, rfl, HXI, hi2, HT, HP, hb⟩ := hrel
        have hzb := hb.size
        have hPl := (unhide HP).lt
        cases i with
        | zero =>
          obtain rfl : x = 0 := by have := unhide HXI; omega
          have hp0 := (unhide HP).cell 0 _ rfl
          obtain ⟨wo, hwo⟩ : ∃ W, W = wr := ⟨_, rfl⟩
          subst hwo
          have HT0 : Hid (Blk wo T (tb (cpl (fun _ _ => false) M 0)) 62) := unhide HT
          have HPo := hide (unhide HP)
          clear HT HP
          go_wp2_with fail
          clear hp0
          go_loopw [32] (fun jx wr => ∃ j : Nat, jx = .int .i64 (j : Int) ∧ j ≤ lm ∧ Hid (Blk wr T (tb (cpl (fun _ _ => false) M j)) 62) ∧ Hid (Blk wr (T + 1) #[Value.slice am lm cm, Value.slice an ln cn] 27) ∧ Below w.heap.size w wr) (fun jx _ => lm - (intOf jx).toNat)
          case atStart => exact ⟨0, rfl, Nat.zero_le _, HT0, HPo, hb⟩
          case round =>
            clear HT0 HPo hb
            obtain ⟨j, rfl, hj, HT, HP, hb⟩ := hrel
            have hTl := (unhide HT).lt
            have hPl := (unhide HP).lt
            have hzb := hb.size
            by_cases hlt : j < lm
            · have hjL : j < M.length := by have := unhide HLM; omega
              obtain ⟨b, off, rfl, hbB, c1, c2⟩ := unhide HCM j hjL
              rw [← hb.cell (p := ⟨b, off + j * 2, none⟩) (by simp; omega)] at c1
              rw [← hb.cell (p := ⟨b, off + j * 2 + 1, none⟩) (by simp; omega)] at c2
              have hq := (unhide aM).1 _ (List.getElem_mem hjL)
              have HNX := hide (cpl_next (fun _ _ => false) M j hjL)
              generalize M[j] = y at c1 c2 hq HNX
              obtain ⟨y0, y1⟩ := y
              simp only at c1 c2 hq HNX
              obtain ⟨q0, q1, q2⟩ := hq
              obtain ⟨k0, rfl⟩ := Int.eq_ofNat_of_zero_le q0
              obtain ⟨k1, rfl⟩ := Int.eq_ofNat_of_zero_le (show 0 ≤ y1 by omega)
              have TU := hide (fun W hW => turn_any T k0 k1 (cpl (fun _ _ => false) M j) (by omega) (by omega) (by omega) W hW)
              have hx2 : (j : Int) < (lm : Int) := by omega
              have hx0 : (0 : Int) ≤ (j : Int) := by omega
              clear q0 q1 q2
              go_wp2_with fail
              obtain ⟨V6, hV6⟩ : ∃ W, W = wr.alloc (Obj.cells #[Value.int .i64 (k0 : Int), Value.int .i64 (k1 : Int)] 58) := ⟨_, rfl⟩
              rw [← hV6]
              have n6 : Below wr.heap.size wr V6 := by rw [hV6]; exact below_new _ _
              have b6 := hb.trans (n6.mono hb.size)
              clear hV6
              refine (unhide TU V6 ((unhide HT).below n6)).mono ?_
              rintro e w7 ⟨rfl, hT7, hk7⟩
              have b7 : Below w.heap.size w w7 := b6.trans (hk7.below b6.size (fun i hi => by omega))
              have HT7 : Hid (Blk w7 T (tb (cpl (fun _ _ => false) M (j + 1))) 62) := by
                show Blk _ _ _ _
                rw [unhide HNX]
                exact hT7
              have HP7 := hide (((unhide HP).below n6).kept hk7 (show ¬ T + 1 = T by omega))
              clear hT7 hk7 n6 TU HNX b6
              go_wp2_with fail
              exact ⟨⟨j + 1, by go_num, by omega, HT7, HP7, b7⟩, by simp [intOf]; omega⟩
            · obtain rfl : lm = j := by omega
              have HTN : Hid (Blk wr T (tb (stF M N 1)) 62) := by
                have h9 := unhide HT
                rw [unhide HLM] at h9
                show Blk _ _ (tb (cpl (cpl (fun _ _ => false) M M.length) N 0)) _
                rw [cpl_zero]
                exact h9
              go_wp2_with fail
              exact ⟨⟨1, 1, by first | rfl | go_num, rfl, by omega, HTN, HP, hb⟩, by simp [intOf]⟩
        | succ i =>
        cases i with
        | zero =>
          obtain rfl : x = 1 := by have := unhide HXI; omega
          have hp0 := (unhide HP).cell 1 _ rfl
          obtain ⟨wo, hwo⟩ : ∃ W, W = wr := ⟨_, rfl⟩
          subst hwo
          have HT0 : Hid (Blk wo T (tb (cpl (cpl (fun _ _ => false) M M.length) N 0)) 62) := unhide HT
          have HPo := hide (unhide HP)
          clear HT HP
          go_wp2_with fail
          clear hp0
          go_loopw [32] (fun jx wr => ∃ j : Nat, jx = .int .i64 (j : Int) ∧ j ≤ ln ∧ Hid (Blk wr T (tb (cpl (cpl (fun _ _ => false) M M.length) N j)) 62) ∧ Hid (Blk wr (T + 1) #[Value.slice am lm cm, Value.slice an ln cn] 27) ∧ Below w.heap.size w wr) (fun jx _ => ln - (intOf jx).toNat)
          case atStart => exact ⟨0, rfl, Nat.zero_le _, HT0, HPo, hb⟩
          case round =>
            clear HT0 HPo hb
            obtain ⟨j, rfl, hj, HT, HP, hb⟩ := hrel
            have hTl := (unhide HT).lt
            have hPl := (unhide HP).lt
            have hzb := hb.size
            by_cases hlt : j < ln
            · have hjL : j < N.length := by have := unhide HLN; omega
              obtain ⟨b, off, rfl, hbB, c1, c2⟩ := unhide HCN j hjL
              rw [← hb.cell (p := ⟨b, off + j * 2, none⟩) (by simp; omega)] at c1
              rw [← hb.cell (p := ⟨b, off + j * 2 + 1, none⟩) (by simp; omega)] at c2
              have hq := (unhide aN).1 _ (List.getElem_mem hjL)
              have HNX := hide (cpl_next (cpl (fun _ _ => false) M M.length) N j hjL)
              generalize N[j] = y at c1 c2 hq HNX
              obtain ⟨y0, y1⟩ := y
              simp only at c1 c2 hq HNX
              obtain ⟨q0, q1, q2⟩ := hq
              obtain ⟨k0, rfl⟩ := Int.eq_ofNat_of_zero_le q0
              obtain ⟨k1, rfl⟩ := Int.eq_ofNat_of_zero_le (show 0 ≤ y1 by omega)
              have TU := hide (fun W hW => turn_any T k0 k1 (cpl (cpl (fun _ _ => false) M M.length) N j) (by omega) (by omega) (by omega) W hW)
              have hx2 : (j : Int) < (ln : Int) := by omega
              have hx0 : (0 : Int) ≤ (j : Int) := by omega
              clear q0 q1 q2
              go_wp2_with fail
              obtain ⟨V6, hV6⟩ : ∃ W, W = wr.alloc (Obj.cells #[Value.int .i64 (k0 : Int), Value.int .i64 (k1 : Int)] 58) := ⟨_, rfl⟩
              rw [← hV6]
              have n6 : Below wr.heap.size wr V6 := by rw [hV6]; exact below_new _ _
              have b6 := hb.trans (n6.mono hb.size)
              clear hV6
              refine (unhide TU V6 ((unhide HT).below n6)).mono ?_
              rintro e w7 ⟨rfl, hT7, hk7⟩
              have b7 : Below w.heap.size w w7 := b6.trans (hk7.below b6.size (fun i hi => by omega))
              have HT7 : Hid (Blk w7 T (tb (cpl (cpl (fun _ _ => false) M M.length) N (j + 1))) 62) := by
                show Blk _ _ _ _
                rw [unhide HNX]
                exact hT7
              have HP7 := hide (((unhide HP).below n6).kept hk7 (show ¬ T + 1 = T by omega))
              clear hT7 hk7 n6 TU HNX b6
              go_wp2_with fail
              exact ⟨⟨j + 1, by go_num, by omega, HT7, HP7, b7⟩, by simp [intOf]; omega⟩
            · obtain rfl : ln = j := by omega
              have HTN : Hid (Blk wr T (tb (stF M N 2)) 62) := by
                have h9 := unhide HT
                rw [unhide HLN] at h9
                exact h9
              go_wp2_with fail
              exact ⟨⟨2, 2, by first | rfl | go_num, rfl, by omega, HTN, HP, hb⟩, by simp [intOf]⟩
        | succ i =>
          obtain rfl : i = 0 := by omega
          obtain rfl : x = 2 := by have := unhide HXI; omega
          have HT9 : Hid (Blk wr T (tb (swpF M N)) 62) := unhide HT
          obtain ⟨F, hF⟩ : ∃ F, F = swpF M N := ⟨_, rfl⟩
          rw [← hF] at HT9 HRV
          have ENW := hide (unhide EN F T wr (unhide HT9))
          clear HT HP hF
          go_wp2_with fail
          refine (unhide ENW).mono ?_
          rintro e w6 ⟨rfl, hb6⟩
          have b6 := hb.trans (hb6.mono hb.size)
          have PAW := hide (unhide PA F (endF F) T w6 ((unhide HT9).below hb6))
          clear hb6 ENW
          go_wp2_with fail
          refine (unhide PAW).mono ?_
          rintro e w7 ⟨⟨d7, rfl, ho7⟩, hb7⟩
          have b7 := b6.trans (hb7.mono b6.size)
          obtain ⟨A7, c7, rfl⟩ := ho7.shape
          have LLW := hide (unhide LL _ (by have := unhide HPL F (endF F); simpa using this) _ _ w7 ho7)
          clear ho7 hb7 PAW
          go_wp2_with fail
          refine (unhide LLW).mono ?_
          rintro e w8 ⟨⟨d8, rfl, ho8⟩, hb8⟩
          have b8 := b7.trans (hb8.mono b7.size)
          obtain ⟨A8, c8, h8⟩ := ho8.shape
          rw [List.length_map] at h8
          subst h8
          have HO8 := hide (ho8.lower b7.size)
          have hrv := unhide HRV
          subst hrv
          clear ho8 hb8
          go_wp2
          go_ret
          exact ⟨⟨_, rfl, unhide HO8⟩, b8⟩
end Lk
end Go.Proofs.Ytnihoabminnbcaa
namespace Go.Proofs.Ytnihoabminnbcaa
namespace Lk
open Go.RowKit
open Gr (Blk Kept EdgeI CoupleI GrAt couplesAt GBox below_new graphOk graph_sound edgeOk_iff matchOk match_sound hit)
theorem has_next (M : List CoupleI) (x : CoupleI) (k : Nat) (h : k < M.length) : hasC (M.take (k + 1)) x = (hasC (M.take k) x || decide (M[k] = x)) := by
  unfold hasC
  rw [List.take_succ_eq_append_getElem h, List.any_append]
  simp
theorem has_mem (M : List CoupleI) (x : CoupleI) (k : Nat) (h : k < M.length) (e : M[k] = x) : hasC M x = true := (hasC_iff M x).2 (e ▸ List.getElem_mem h)
set_option maxRecDepth 100000 in
set_option maxHeartbeats 2000000 in
theorem has_any (a : Option Addr) (n c B : Nat) (M : List CoupleI) (x0 x1 : Int) (hn : n ≤ 1048576) (w : World) (hB : B ≤ w.heap.size) (hM : couplesAt w a n B M) :
    Calls Try.prog 25 #[.slice a n c, .agg #[.int .i64 x0, .int .i64 x1]] w fun e w' => e = .returned (.bool (hasC M ⟨x0, x1⟩)) ∧ Below w.heap.size w w' := by
  obtain ⟨hL, hc⟩ := hM
  have HC := hide hc
  have HL := hide hL
  have HNX := hide (fun k h => has_next M ⟨x0, x1⟩ k h)
  have HME := hide (fun k h e => has_mem M ⟨x0, x1⟩ k h e)
  have HEND : Hid (hasC (M.take n) ⟨x0, x1⟩ = hasC M ⟨x0, x1⟩) := by show _ = _; rw [← hL, List.take_length]
  have H0 : Hid (hasC (M.take 0) ⟨x0, x1⟩ = false) := rfl
  generalize hasC M ⟨x0, x1⟩ = R at HME HEND ⊢
  clear hc hL
  go_enter Try.func25, Try.ntmps25
  go_wp2_with fail
  obtain ⟨V1, hV1⟩ : ∃ W, W = w.alloc (Obj.cells #[Value.int .i64 x0, Value.int .i64 x1] 58) := ⟨_, rfl⟩
  rw [← hV1]
  have b1 : Below w.heap.size w V1 := by rw [hV1]; exact below_new _ _
  have u1 : Blk V1 w.heap.size #[Value.int .i64 x0, Value.int .i64 x1] 58 := by rw [hV1]; exact Gr.Blk.new0
  have d0 := u1.cell 0 _ rfl
  have d1 := u1.cell 1 _ rfl
  have sz : V1.heap.size = w.heap.size + 1 := by rw [hV1]; simp
  clear hV1 u1
  go_loopw [5] (fun i wr => ∃ k : Nat, i = .int .i64 (k : Int) ∧ k ≤ n ∧ Hid (hasC (M.take k) ⟨x0, x1⟩ = false) ∧ Below V1.heap.size V1 wr) (fun i _ => n - (intOf i).toNat)
  case atStart => exact ⟨0, rfl, Nat.zero_le _, H0, Below.refl _ _⟩
  case round =>
    obtain ⟨k, rfl, hk, HNO, hb⟩ := hrel
    have hbw : Below w.heap.size w wr := b1.trans (hb.mono (by omega))
    by_cases hlt : k < n
    · have hkM : k < M.length := by have := unhide HL; omega
      obtain ⟨b, off, rfl, hbB, c1, c2⟩ := unhide HC k hkM
      rw [← hbw.cell (p := ⟨b, off + k * 2, none⟩) (by simp; omega)] at c1
      rw [← hbw.cell (p := ⟨b, off + k * 2 + 1, none⟩) (by simp; omega)] at c2
      rw [← hb.cell (p := ⟨w.heap.size, 0, none⟩) (by simp; omega)] at d0
      rw [← hb.cell (p := ⟨w.heap.size, 1, none⟩) (by simp; omega)] at d1
      have HNX' := hide (unhide HNX k hkM)
      have HME' := hide (unhide HME k hkM)
      generalize M[k] = y at c1 c2 HNX' HME'
      obtain ⟨y0, y1⟩ := y
      simp only at c1 c2
      have hx2 : (k : Int) < (n : Int) := by omega
      have hx0 : (0 : Int) ≤ (k : Int) := by omega
      have SZ := hide sz
      clear sz
      by_cases e0 : y0 = x0
      · subst e0
        by_cases e1 : y1 = x1
        · subst e1
          have hR := unhide HME' rfl
          subst hR
          go_upto_region 4 with fail
          go_quiet (fail)
          go_wp2
          go_ret
          exact ⟨rfl, below_drewN hbw _⟩
        · have t1 : (y1 == x1) = false := by simp [e1]
          have HNO' : Hid (hasC (M.take (k + 1)) ⟨y0, x1⟩ = false) := by show _ = _; rw [unhide HNX', unhide HNO, decide_eq_false (by simp [e1])]; rfl
          clear e1
          go_upto_region 4 with fail
          go_quiet (fail)
          go_wp2
          go_roundw
          case rel => exact ⟨k + 1, by go_num, by omega, HNO', below_drewN hb _⟩
          case measure => simp [intOf]; omega
      · have t0 : (y0 == x0) = false := by simp [e0]
        have HNO' : Hid (hasC (M.take (k + 1)) ⟨x0, x1⟩ = false) := by show _ = _; rw [unhide HNX', unhide HNO, decide_eq_false (by simp [e0])]; rfl
        clear e0
        go_upto_region 4 with fail
        go_quiet (fail)
        go_wp2
        go_roundw
        case rel => exact ⟨k + 1, by go_num, by omega, HNO', below_drewN hb _⟩
        case measure => simp [intOf]; omega
    · obtain rfl : n = k := by omega
      have hR : R = false := by rw [← unhide HEND]; exact unhide HNO
      subst hR
      go_wp2_with fail
      go_ret
      exact ⟨rfl, hbw⟩
/-- The rows of the swapped edges, those of more than one vertex. -/
theorem swap_rows {s : Int} {Q : List EdgeI} {M N : List CoupleI} (hM : matchOk s Q M = true) (hN : matchOk s Q N = true) :
    (rowsS (swapQ Q M N) s.toNat []).filter (fun r => decide (1 < r.length)) = swapR s Q M N := by
  have hg := (match_sound hM).1
  have hq := swap_ok hg M N
  obtain ⟨s0, s9⟩ := ok_size hg
  unfold swapR
  rw [if_pos ⟨hM, hN⟩, rows_same hq, swp_is hM hN]
  unfold partsR
  have hin : ∀ u w, lnkF (swapQ Q M N) u w = true → u < s.toNat ∧ w < s.toNat := fun u w h => by
    rw [lnkF_any (apart_of hq), List.any_eq_true] at h
    obtain ⟨e, he, hh⟩ := h
    have h1 := (edgeOk_iff s e).1 ((graph_sound hq).2.2.1 e he)
    unfold hit at hh
    simp only [Bool.or_eq_true, Bool.and_eq_true, beq_iff_eq] at hh
    omega
  have hleft : ∀ u, u < s.toNat → leftF s.toNat [] u = true := fun u hu => by rw [left_is hu]; rfl
  rw [prts_ends (lnkF_swap (apart_of hq)) (fun u => by
    cases h : lnkF (swapQ Q M N) u u
    · rfl
    · rw [lnkF_any (apart_of hq), List.any_eq_true] at h
      obtain ⟨e, he, hh⟩ := h
      have h1 := (apart_of hq).1 e he
      unfold hit at hh
      simp only [Bool.or_eq_true, Bool.and_eq_true, beq_iff_eq] at hh
      omega) (fun u w h => by have := hin u w h; omega) (List.range' 0 9) (leftF s.toNat []) (fun v hv => by have := List.mem_range'_1.1 hv; omega) (fun u w h _ _ => hleft w (hin u w h).2)]
  have e : (fun j => leftF s.toNat [] j && endF (lnkF (swapQ Q M N)) j) = endF (lnkF (swapQ Q M N)) := by
    funext j
    cases h : endF (lnkF (swapQ Q M N)) j
    · simp
    · obtain ⟨u, _, hF⟩ := (endF_iff _ _).1 h
      rw [hleft j (hin j u hF).1]
      rfl
  rw [e]
theorem dist_add {vs us : List Value} {k : Nat} (h : Dist vs) (hk : k < vs.length) (hus : Dist us) (hm : ∀ u ∈ us, ∃ j, ∃ hj : j < vs.length, j < k ∧ u = vs[j]) : Dist (us ++ [vs[k]]) := by
  have key : ∀ (a : Nat) (ha : a < us.length) g, us[a].ownBlock = some g → vs[k].ownBlock = some g → False := fun a ha g h1 h2 => by
    obtain ⟨j, hj, hjk, e⟩ := hm _ (List.getElem_mem ha)
    rw [e] at h1
    have := h j k hj hk g h1 h2
    omega
  intro i j hi hj g hgi hgj
  by_cases hi' : i < us.length
  · rw [List.getElem_append_left hi'] at hgi
    by_cases hj' : j < us.length
    · rw [List.getElem_append_left hj'] at hgj
      exact hus i j hi' hj' g hgi hgj
    · have e : j = us.length := by simp at hj; omega
      subst e
      have e1 : (us ++ [vs[k]])[us.length] = vs[k] := by simp
      rw [e1] at hgj
      exact (key i hi' g hgi hgj).elim
  · have e : i = us.length := by simp at hi; omega
    subst e
    have e1 : (us ++ [vs[k]])[us.length] = vs[k] := by simp
    rw [e1] at hgi
    by_cases hj' : j < us.length
    · rw [List.getElem_append_left hj'] at hgj
      exact (key j hj' g hgj hgi).elim
    · simp at hj; omega
end Lk
end Go.Proofs.Ytnihoabminnbcaa
namespace Go.Proofs.Ytnihoabminnbcaa
namespace Lk
open Go.RowKit
open Gr (Blk Kept EdgeI CoupleI GrAt GBox below_new edgesV edgesV_snoc edgesAt infoEdge graphOk matchOk match_sound specMatch_any news_edge edge_one own_below own_lower InOwn InAt intsV intsAt_of_own CoAt)
theorem swap_next (Q : List EdgeI) (M N : List CoupleI) (k : Nat) (h : k < Q.length) : swapQ (Q.take (k + 1)) M N = swapQ (Q.take k) M N ++ (if (hasC M ⟨Q[k].A, Q[k].B⟩ != hasC N ⟨Q[k].A, Q[k].B⟩) = true then [Q[k]] else []) := by
  unfold swapQ
  rw [List.take_succ_eq_append_getElem h, List.filter_append]
  congr 1
  rw [List.filter_cons, List.filter_nil]
theorem wide_next (G : List (List Int)) (k : Nat) (h : k < G.length) : (G.take (k + 1)).filter (fun r => decide (1 < r.length)) = (G.take k).filter (fun r => decide (1 < r.length)) ++ (if 1 < G[k].length then [G[k]] else []) := by
  rw [List.take_succ_eq_append_getElem h, List.filter_append]
  congr 1
  by_cases e : 1 < G[k].length
  · rw [if_pos e, List.filter_cons, if_pos (by simpa using e)]; rfl
  · rw [if_neg e, List.filter_cons, if_neg (by simpa using e)]; rfl
/-- No rows yet, at a place of its own. -/
def OutE (w : World) (B T : Nat) : Prop := World.ownsRow w B 30 1 (.slice (some ⟨T, 0, none⟩) 0 0) 0 []
theorem OutE.ss {w : World} {B T : Nat} (h : OutE w B T) : SsOwn w B (.slice (some ⟨T, 0, none⟩) 0 0) [] := ⟨[], ⟨w.heap.size, ⟨rfl, h, fun j h => absurd h (by simp)⟩, Nat.le_refl _⟩, Dist.nil⟩
theorem OutE.new (w : World) : OutE (w.alloc (Obj.cells #[] 30)) w.heap.size w.heap.size :=
  World.ownsRow_made (size := 1) w (e := 30) #[] 0 (Nat.le_refl _) (Nat.zero_le _) (show (#[] : Array Value).size = 0 * 1 from rfl)
theorem OutE.low {w : World} {B C T : Nat} (h : OutE w B T) (hC : C ≤ B) : OutE w C T := own_lower hC h
theorem OutE.below {w w' : World} {B T : Nat} (h : OutE w B T) (hb : Below w.heap.size w w') : OutE w' B T := own_below h hb
theorem OutE.kept {S : Nat → Prop} {w w' : World} {B T : Nat} (h : OutE w B T) (hk : Kept S w w') (hS : ¬ S T) : OutE w' B T := hk.own h (fun g hg => by
  have e : T = g := by simpa [Value.ownBlock] using hg
  subst e
  exact hS)
set_option maxRecDepth 100000 in
set_option maxHeartbeats 8000000 in
theorem specSwap_gen (B : Nat) (v : Value) (s : Int) (Q : List EdgeI) (u : Value) (M : List CoupleI) (x : Value) (N : List CoupleI) (h1 : Q.length ≤ 1048576) (h2 : M.length ≤ 1048576) (h3 : N.length ≤ 1048576) (w : World) (hB : B ≤ w.heap.size) (hv : GrAt w v B s Q) (hu : CoAt w u B M) (hx : CoAt w x B N) :
    Calls Try.prog 8 #[v, u, x] w fun e w' => (∃ d, e = .returned d ∧ SsOwn w' w.heap.size d (swapR s Q M N)) ∧ Below w.heap.size w w' := by
  obtain ⟨am, cm, rfl, hM⟩ := hu
  obtain ⟨an, cn, rfl, hN⟩ := hx
  have OM := hide (fun w1 (hb : Below w.heap.size w w1) => specMatch_any v B s Q am M.length cm M h1 h2 w1 (by have := hb.size; omega) (hv.below hb hB) (hM.below hb hB))
  have ON := hide (fun w1 (hb : Below w.heap.size w w1) => specMatch_any v B s Q an N.length cn N h1 h3 w1 (by have := hb.size; omega) (hv.below hb hB) (hN.below hb hB))
  have HM1 := hide (fun x0 x1 w1 (hb : Below w.heap.size w w1) => has_any am M.length cm B M x0 x1 h2 w1 (by have := hb.size; omega) (hM.below hb hB))
  have HN1 := hide (fun x0 x1 w1 (hb : Below w.heap.size w w1) => has_any an N.length cn B N x0 x1 h3 w1 (by have := hb.size; omega) (hN.below hb hB))
  obtain ⟨RS, hRS⟩ : ∃ RS, RS = rowsS (swapQ Q M N) s.toNat [] := ⟨_, rfl⟩
  obtain ⟨SQ, hSQ⟩ : ∃ SQ, SQ = swapQ Q M N := ⟨_, rfl⟩
  have PA : Hid (matchOk s Q M = true → ∀ d r W, GrAt W d W.heap.size s SQ → InAt W r W.heap.size [] → Calls Try.prog 26 #[d, r] W fun e w' => (∃ d' vs C, e = .returned d' ∧ Grps w' W.heap.size C d' vs RS ∧ Dist vs ∧ C ≤ w'.heap.size) ∧ Below W.heap.size W w') := fun hg d r W hd hr => by
    obtain ⟨s0, s9⟩ := ok_size (match_sound hg).1
    obtain ⟨n, rfl⟩ := Int.eq_ofNat_of_zero_le s0
    rw [hSQ] at hd
    have hlen : (swapQ Q M N).length ≤ 1048576 := Nat.le_trans (List.length_filter_le _ _) h1
    have h9 := partsS_any d W.heap.size n (swapQ Q M N) r [] hlen (by simp) (by omega) W (Nat.le_refl _) hd hr
    rw [Int.toNat_natCast] at hRS
    rw [← hRS] at h9
    exact h9
  have HRL : Hid (matchOk s Q M = true → RS.length ≤ 9 ∧ ∀ r ∈ RS, r.length ≤ 9) := fun hg => by
    obtain ⟨s0, s9⟩ := ok_size (match_sound hg).1
    have e1 := rowsS_length (swapQ Q M N) s.toNat []
    have e2 := rowsS_row (swapQ Q M N) s.toNat []
    rw [← hRS] at e1 e2
    exact ⟨by omega, fun r hr => by have := e2 r hr; omega⟩
  have HR : Hid (matchOk s Q M = true → matchOk s Q N = true → RS.filter (fun r => decide (1 < r.length)) = swapR s Q M N) := fun h k => by rw [hRS]; exact swap_rows h k
  have HR0 : Hid (matchOk s Q M = false ∨ matchOk s Q N = false → swapR s Q M N = []) := fun h => by
    unfold swapR
    rw [if_neg]
    rintro ⟨h1, h2⟩
    rcases h with h | h
    · rw [h] at h1; cases h1
    · rw [h] at h2; cases h2
  have HQN := hide (fun k h => swap_next Q M N k h)
  have HQ0 : Hid (swapQ (Q.take 0) M N = []) := rfl
  have HQE : Hid (swapQ (Q.take Q.length) M N = SQ) := by show _ = _; rw [List.take_length, hSQ]
  have HWN := hide (fun k h => wide_next RS k h)
  clear hRS hSQ
  obtain ⟨a, n, c, rfl, hE⟩ := hv
  obtain ⟨hL, hc⟩ := hE
  rw [hL] at HQE h1
  have HC := hide hc
  have HL := hide hL
  generalize swapR s Q M N = V at HR HR0 ⊢
  generalize matchOk s Q M = gm at OM PA HRL HR HR0
  generalize matchOk s Q N = gn at ON HR HR0
  obtain ⟨lm, hlm⟩ : ∃ lm, lm = M.length := ⟨_, rfl⟩
  obtain ⟨ln, hln⟩ : ∃ ln, ln = N.length := ⟨_, rfl⟩
  rw [← hlm] at OM HM1 ⊢
  rw [← hln] at ON HN1 ⊢
  obtain ⟨i1, hi1, hz0, hz1, hz2⟩ := info_parts infoEdge
  obtain ⟨i2, hi2, hy0, hy1, hy2⟩ := info_parts infoRow
  clear hM hN h2 h3 hlm hln hc hL
  go_enter Try.func8, Try.ntmps8
  go_wp2_with fail
  obtain ⟨V0, hV0⟩ : ∃ W, W = w.alloc (Obj.cells #[Value.int .i64 s, Value.slice a n c] 26) := ⟨_, rfl⟩
  obtain ⟨V1, hV1⟩ : ∃ W, W = V0.alloc (Obj.cells #[] 30) := ⟨_, rfl⟩
  rw [← hV0, ← hV1]
  have x0 : GBox V0 w.heap.size s (.slice a n c) := by rw [hV0]; exact GBox.new _ _ _
  have b0 : Below w.heap.size w V0 := by rw [hV0]; exact below_new _ _
  have z0 : V0.heap.size = w.heap.size + 1 := by rw [hV0]; simp
  have x1 : GBox V1 w.heap.size s (.slice a n c) := by rw [hV1]; exact x0.below (below_new _ _)
  have b1 : Below w.heap.size w V1 := by rw [hV1]; exact b0.alloc b0.size _
  have o1 : OutE V1 w.heap.size (w.heap.size + 1) := by rw [hV1, ← z0]; exact (OutE.new V0).low (by omega)
  have z1 : w.heap.size + 1 < V1.heap.size := by rw [hV1]; simp; omega
  clear hV0 hV1 x0 b0 z0
  refine (unhide OM V1 b1).mono ?_
  rintro e w2 ⟨rfl, hb2⟩
  have x2 := x1.below hb2
  have b2 := b1.trans (hb2.mono b1.size)
  have o2 := o1.below hb2
  have z2 : w.heap.size + 1 < w2.heap.size := Nat.lt_of_lt_of_le z1 hb2.size
  obtain ⟨p0, p1⟩ := x2.cells
  clear hb2 x1 OM b1 o1 z1
  cases gm
  · have hR := unhide HR0 (.inl rfl)
    subst hR
    have HO := hide o2.ss
    clear o2
    go_wp2
    go_ret
    exact ⟨⟨_, rfl, unhide HO⟩, b2⟩
  · go_wp2_with fail
    refine (unhide ON w2 b2).mono ?_
    rintro e w3 ⟨rfl, hb3⟩
    have x3 := x2.below hb3
    have b3 := b2.trans (hb3.mono b2.size)
    have o3 := o2.below hb3
    have z3 : w.heap.size + 1 < w3.heap.size := Nat.lt_of_lt_of_le z2 hb3.size
    clear hb3 ON p0 p1 x2 b2 o2 z2
    obtain ⟨p0, p1⟩ := x3.cells
    cases gn
    · have hR := unhide HR0 (.inr rfl)
      subst hR
      have HO := hide o3.ss
      clear o3
      go_wp2
      go_ret
      exact ⟨⟨_, rfl, unhide HO⟩, b3⟩
    · have hR := unhide HR (by first | rfl | trivial) (by first | rfl | trivial)
      have HRV := hide hR
      have PA2 := hide (unhide PA (by first | rfl | trivial))
      have HRL2 := hide (unhide HRL (by first | rfl | trivial))
      clear hR HR HR0 PA HRL
      obtain ⟨V3, hV3⟩ : ∃ W, W = w3.alloc (Obj.cells #[Value.int .i64 s, Value.slice none 0 0] 26) := ⟨_, rfl⟩
      have HX3 : Hid (GBox V3 w.heap.size s (.slice a n c)) := by show GBox _ _ _ _; rw [hV3]; exact x3.below (below_new _ _)
      have HU3 : Hid (GBox V3 w3.heap.size s (.slice none 0 0)) := by show GBox _ _ _ _; rw [hV3]; exact GBox.new _ _ _
      have b4 : Below w.heap.size w V3 := by rw [hV3]; exact b3.alloc b3.size _
      have HE3 : Hid (OutE V3 w.heap.size (w.heap.size + 1)) := by show OutE _ _ _; rw [hV3]; exact o3.below (below_new _ _)
      have HO3 : Hid (World.ownsRow V3 (w3.heap.size + 1) 70 5 (.slice none 0 0) 0 (edgesV (swapQ (Q.take 0) M N))) := ⟨by rw [unhide HQ0]; rfl, .inl ⟨rfl, rfl⟩⟩
      obtain ⟨q0, q1⟩ := (unhide HX3).cells
      rw [hV3] at q0 q1
      clear x3 o3
      go_wp2_with fail
      rw [← hV3]
      clear hV3 q0 q1 p0 p1 b3
      generalize w3.heap.size = g at HX3 HU3 HO3 z3
      go_loopw [9] (fun i wr => ∃ k m : Nat, i = .int .i64 (k : Int) ∧ k ≤ n ∧ m ≤ k ∧ Below w.heap.size w wr ∧ Hid (OutE wr w.heap.size (w.heap.size + 1)) ∧ ∃ A C, Hid (GBox wr g s (.slice A m C)) ∧ Hid (World.ownsRow wr (g + 1) 70 5 (.slice A m C) m (edgesV (swapQ (Q.take k) M N))) ∧ Hid (GBox wr w.heap.size s (.slice a n c))) (fun i _ => n - (intOf i).toNat)
      case atStart => exact ⟨0, 0, rfl, Nat.zero_le _, Nat.zero_le _, b4, HE3, none, 0, unhide HU3, unhide HO3, unhide HX3⟩
      case round =>
        clear HU3 HO3 b4 HX3 HE3
        obtain ⟨k, m, rfl, hk, hmk, hb, HE, A, C, HU, HO, HX⟩ := hrel
        have hgl := (unhide HU).lt
        by_cases hlt : k < n
        · have hkQ : k < Q.length := by have := unhide HL; omega
          obtain ⟨b, off, rfl, hbB, c0, c1, c2, c3, c4⟩ := unhide HC k hkQ
          have HCW : Hid (∀ W, Below w.heap.size w W → W.cell? ⟨b, off + k * 5, none⟩ = some (.int .i64 Q[k].A) ∧ W.cell? ⟨b, off + k * 5 + 1, none⟩ = some (.int .i64 Q[k].B) ∧ W.cell? ⟨b, off + k * 5 + 2, none⟩ = some (.int .i64 Q[k].W1) ∧ W.cell? ⟨b, off + k * 5 + 3, none⟩ = some (.int .i64 Q[k].W2) ∧ W.cell? ⟨b, off + k * 5 + 4, none⟩ = some (.int .i64 Q[k].W3)) := fun W hW =>
            ⟨(hW.cell (p := ⟨b, off + k * 5, none⟩) (by simp; omega)).trans c0, (hW.cell (p := ⟨b, off + k * 5 + 1, none⟩) (by simp; omega)).trans c1, (hW.cell (p := ⟨b, off + k * 5 + 2, none⟩) (by simp; omega)).trans c2, (hW.cell (p := ⟨b, off + k * 5 + 3, none⟩) (by simp; omega)).trans c3, (hW.cell (p := ⟨b, off + k * 5 + 4, none⟩) (by simp; omega)).trans c4⟩
          clear c0 c1 c2 c3 c4
          have HS := hide (unhide HQN k hkQ)
          have HM2 := hide (unhide HM1 Q[k].A Q[k].B)
          have HN2 := hide (unhide HN1 Q[k].A Q[k].B)
          generalize Q[k] = q at HCW HS HM2 HN2
          obtain ⟨y0, y1, y2, y3, y4⟩ := q
          simp only at HCW HS HM2 HN2
          generalize hasC M ⟨y0, y1⟩ = bm at HS HM2
          generalize hasC N ⟨y0, y1⟩ = bn at HS HN2
          obtain ⟨sw, hsw⟩ : ∃ sw, sw = (bm != bn) := ⟨_, rfl⟩
          have HSW := hide hsw
          clear hsw
          have hx2 : (k : Int) < (n : Int) := by omega
          have hx0 : (0 : Int) ≤ (k : Int) := by omega
          obtain ⟨c0, c1, c2, c3, c4⟩ := unhide HCW wr hb
          obtain ⟨p0, p1⟩ := (unhide HX).cells
          clear c2 c3 c4
          have hxl := (unhide HX).lt
          have hbl : b < wr.heap.size := by have := hb.size; omega
          have hbn : ¬ b = wr.heap.size := by omega
          have hwn : ¬ w.heap.size = wr.heap.size := by omega
          go_wp2_with fail
          go_region_held3 (fun u => u.cell? ⟨w.heap.size, 1, none⟩ = some (.slice (some ⟨b, off, none⟩) n c) ∧ u.cell? ⟨b, off + k * 5, none⟩ = some (.int .i64 y0) ∧ u.cell? ⟨b, off + k * 5 + 1, none⟩ = some (.int .i64 y1)) (go_keep) (fail)
          obtain ⟨V5, hV5⟩ : ∃ W, W = (wr.alloc (Obj.cells #[Value.int .i64 y0, Value.int .i64 y1] 58)).drew := ⟨_, rfl⟩
          rw [← hV5]
          have n5 : Below wr.heap.size wr V5 := by rw [hV5]; exact (below_new _ _).drew
          have u5 : Blk V5 wr.heap.size #[Value.int .i64 y0, Value.int .i64 y1] 58 := by rw [hV5]; exact Gr.Blk.new0.drew
          have b5 := hb.trans (n5.mono hb.size)
          have z5 : wr.heap.size < V5.heap.size := u5.lt
          have HU5 := hide ((unhide HU).below n5)
          have HO5 := hide (own_below (unhide HO) n5)
          have HX5 := hide ((unhide HX).below n5)
          have HE5 := hide ((unhide HE).below n5)
          have f0 := u5.cell 0 _ rfl
          have f1 := u5.cell 1 _ rfl
          clear hV5 u5 p0 p1 c0 c1 HU HO HX HE
          go_wp2_with fail
          go_cut [54] (fun cc wx => cc = .bool sw ∧ Below V5.heap.size V5 wx)
          case first =>
            have gf0 : ∀ d : Gr.Grown V5.heap.size V5, d.w.cell? ⟨wr.heap.size, 0, none⟩ = some (.int .i64 y0) := fun d => d.cell z5 f0
            have gf1 : ∀ d : Gr.Grown V5.heap.size V5, d.w.cell? ⟨wr.heap.size, 1, none⟩ = some (.int .i64 y1) := fun d => d.cell z5 f1
            have HGM := hide (fun d : Gr.Grown V5.heap.size V5 => unhide HM2 d.w (b5.trans (d.below.mono b5.size)))
            have HGN := hide (fun d : Gr.Grown V5.heap.size V5 => unhide HN2 d.w (b5.trans (d.below.mono b5.size)))
            have hsw := unhide HSW
            clear f0 f1
            cases bm <;> cases bn <;> subst hsw
            all_goals
              refine Gr.wp_region_grown V5.heap.size (by kernel_rfl) (by kernel_rfl) ?_
              repeat (go_big_quiet_step (first
                | (go_at_call_of 25 (Value.slice am lm cm); exact Gr.Calls.grown (Nat.le_refl _) (unhide HGM _))
                | (go_at_call_of 25 (Value.slice an ln cn); exact Gr.Calls.grown (Nat.le_refl _) (unhide HGN _))))
              refine wpQuiet_nil ?_
              rintro w9 ⟨d9, rfl⟩
              go_wp2_with fail
              go_meet
              exact ⟨rfl, d9.below⟩
          case rest =>
            obtain ⟨rfl, hb9⟩ := hcut
            have b9 := b5.trans (hb9.mono b5.size)
            have HU9 := hide ((unhide HU5).below hb9)
            have HO9 := hide (own_below (unhide HO5) hb9)
            have HX9 := hide ((unhide HX5).below hb9)
            have HE9 := hide ((unhide HE5).below hb9)
            obtain ⟨c0, c1, c2, c3, c4⟩ := unhide HCW wc b9
            clear HU5 HO5 HX5 HE5 hb9 b5 n5 f0 f1 z5 HM2 HN2 hgl HCW hb
            have zbb : b < w.heap.size := by omega
            cases sw
            · have hS : swapQ (Q.take (k + 1)) M N = swapQ (Q.take k) M N := by
                have h := unhide HS
                rw [← unhide HSW] at h
                simpa using h
              have HOn : Hid (World.ownsRow wc (g + 1) 70 5 (.slice A m C) m (edgesV (swapQ (Q.take (k + 1)) M N))) := by show World.ownsRow _ _ _ _ _ _ _; rw [hS]; exact unhide HO9
              clear hS HO9 c0 c1 c2 c3 c4
              go_wp2
              go_roundw
              case rel => exact ⟨k + 1, m, by go_num, by omega, by omega, b9, HE9, A, C, HU9, HOn, HX9⟩
              case measure => simp [intOf]; omega
            · have hS : swapQ (Q.take (k + 1)) M N = swapQ (Q.take k) M N ++ [⟨y0, y1, y2, y3, y4⟩] := by
                have h := unhide HS
                rw [← unhide HSW] at h
                simpa using h
              have HS9 := hide hS
              clear hS HS HSW
              have hjm : m + 1 ≤ maxLen := by unfold maxLen; omega
              obtain ⟨q0, q1⟩ := (unhide HU9).cells
              obtain ⟨p0, p1⟩ := (unhide HX9).cells
              have hgl2 : ∀ g', (Value.slice A m C).ownBlock = some g' → g < g' := fun g' hg => by have := ((unhide HO9).lt g' hg).1; omega
              have hzb := b9.size
              have hgl := (unhide HU9).lt
              have OA : World.ownsRow (wc.alloc (Obj.cells #[Value.int .i64 y0, Value.int .i64 y1, Value.int .i64 y2, Value.int .i64 y3, Value.int .i64 y4] 70)).drew (g + 1) 70 5 (.slice A m C) m (edgesV (swapQ (Q.take k) M N)) := ((unhide HO9).alloc _).drew
              have HNW : ∀ j u, [Value.int .i64 y0, Value.int .i64 y1, Value.int .i64 y2, Value.int .i64 y3, Value.int .i64 y4][j]? = some u → (wc.alloc (Obj.cells #[Value.int .i64 y0, Value.int .i64 y1, Value.int .i64 y2, Value.int .i64 y3, Value.int .i64 y4] 70)).drew.cell? ((⟨wc.heap.size, 0, none⟩ : Addr).add j) = some u := fun j u h => news_edge wc y0 y1 y2 y3 y4 70 j u h
              have HSA : (wc.alloc (Obj.cells #[Value.int .i64 y0, Value.int .i64 y1, Value.int .i64 y2, Value.int .i64 y3, Value.int .i64 y4] 70)).drew.heap.size = wc.heap.size + 1 := by show (wc.alloc _).heap.size = _; simp
              have HSB : g + 1 ≤ (wc.alloc (Obj.cells #[Value.int .i64 y0, Value.int .i64 y1, Value.int .i64 y2, Value.int .i64 y3, Value.int .i64 y4] 70)).drew.heap.size := by omega
              have hk140 : (m + 1) * 40 ≤ 140737488355328 := by omega
              have hHSA := hide HSA
              have HUD : Hid (GBox (wc.alloc (Obj.cells #[Value.int .i64 y0, Value.int .i64 y1, Value.int .i64 y2, Value.int .i64 y3, Value.int .i64 y4] 70)).drew g s (.slice A m C)) := (unhide HU9).below (below_new wc (Obj.cells #[Value.int .i64 y0, Value.int .i64 y1, Value.int .i64 y2, Value.int .i64 y3, Value.int .i64 y4] 70)).drew
              have HXD : Hid (GBox (wc.alloc (Obj.cells #[Value.int .i64 y0, Value.int .i64 y1, Value.int .i64 y2, Value.int .i64 y3, Value.int .i64 y4] 70)).drew w.heap.size s (.slice (some ⟨b, off, none⟩) n c)) := (unhide HX9).below (below_new wc (Obj.cells #[Value.int .i64 y0, Value.int .i64 y1, Value.int .i64 y2, Value.int .i64 y3, Value.int .i64 y4] 70)).drew
              have HED : Hid (OutE (wc.alloc (Obj.cells #[Value.int .i64 y0, Value.int .i64 y1, Value.int .i64 y2, Value.int .i64 y3, Value.int .i64 y4] 70)).drew w.heap.size (w.heap.size + 1)) := (unhide HE9).below (below_new wc (Obj.cells #[Value.int .i64 y0, Value.int .i64 y1, Value.int .i64 y2, Value.int .i64 y3, Value.int .i64 y4] 70)).drew
              have HBD : Hid (Below w.heap.size w (wc.alloc (Obj.cells #[Value.int .i64 y0, Value.int .i64 y1, Value.int .i64 y2, Value.int .i64 y3, Value.int .i64 y4] 70)).drew) := (b9.alloc b9.size _).drew
              have HFIN : Hid (∀ ga cap w14, World.ownsRow w14 (g + 1) 70 5 (.slice (some ⟨ga, 0, none⟩) (m + 1) cap) (m + 1) (edgesV (swapQ (Q.take k) M N) ++ [.int .i64 y0, .int .i64 y1, .int .i64 y2, .int .i64 y3, .int .i64 y4]) → (wc.alloc (Obj.cells #[Value.int .i64 y0, Value.int .i64 y1, Value.int .i64 y2, Value.int .i64 y3, Value.int .i64 y4] 70)).drew.grownBy w14 (Value.slice A m C).ownBlock →
                  ∃ A' C', Hid (GBox (w14.setCell ⟨g, 1, none⟩ (.slice (some ⟨ga, 0, none⟩) (m + 1) cap)) g s (.slice A' (m + 1) C')) ∧ Hid (World.ownsRow (w14.setCell ⟨g, 1, none⟩ (.slice (some ⟨ga, 0, none⟩) (m + 1) cap)) (g + 1) 70 5 (.slice A' (m + 1) C') (m + 1) (edgesV (swapQ (Q.take (k + 1)) M N))) ∧ Hid (GBox (w14.setCell ⟨g, 1, none⟩ (.slice (some ⟨ga, 0, none⟩) (m + 1) cap)) w.heap.size s (.slice (some ⟨b, off, none⟩) n c)) ∧ Hid (OutE (w14.setCell ⟨g, 1, none⟩ (.slice (some ⟨ga, 0, none⟩) (m + 1) cap)) w.heap.size (w.heap.size + 1)) ∧ Below w.heap.size w (w14.setCell ⟨g, 1, none⟩ (.slice (some ⟨ga, 0, none⟩) (m + 1) cap))) := fun ga cap w14 hown14 hgrow14 => by
                have u10 := (unhide HUD).kept (Gr.Kept.of_grown hgrow14) (fun e => absurd (hgl2 _ e) (Nat.lt_irrefl _))
                have hsn : edgesV (swapQ (Q.take k) M N) ++ [.int .i64 y0, .int .i64 y1, .int .i64 y2, .int .i64 y3, .int .i64 y4] = edgesV (swapQ (Q.take (k + 1)) M N) := by rw [unhide HS9]; exact (edgesV_snoc _ ⟨y0, y1, y2, y3, y4⟩).symm
                rw [hsn] at hown14
                have hk11 : Kept (fun i => i = g) w14 (w14.setCell ⟨g, 1, none⟩ (.slice (some ⟨ga, 0, none⟩) (m + 1) cap)) := Gr.Kept.set (S := fun i => i = g) _ _ _ _ rfl
                have bA := unhide HBD
                have b10 : Below w.heap.size w w14 := bA.grown hgrow14 bA.size (fun k hk => by have := hgl2 _ hk; omega)
                have HX14 := (unhide HXD).kept (Gr.Kept.of_grown hgrow14) (fun e => by have := hgl2 _ e; omega)
                have HE14 := (unhide HED).kept (Gr.Kept.of_grown hgrow14) (fun e => by have := hgl2 _ e; omega)
                exact ⟨some ⟨ga, 0, none⟩, cap, u10.one (.slice (some ⟨ga, 0, none⟩) (m + 1) cap), hk11.own hown14 (fun g' hg e => by have := (hown14.lt g' hg).1; omega), HX14.kept hk11 (show ¬ w.heap.size = g by omega), HE14.kept hk11 (show ¬ w.heap.size + 1 = g by omega), b10.trans (hk11.below b10.size (fun i hi => by omega))⟩
              clear HSA b9 HO9 HU9 HX9 HE9 HXD HED HBD HS9
              go_wp2_with fail
              go_region_law
                (first
                  | (refine step_append_lies _ (by rfl) _ _ _ (by rfl) (g + 1) 70 i1 _ 5 40 Try.underlying24 hi1 hz0 hz1 hz2 rfl (by omega) (.slice A m C) m (edgesV (swapQ (Q.take k) M N)) (by rfl) OA ⟨wc.heap.size, 0, none⟩ 1 1 [.int .i64 y0, .int .i64 y1, .int .i64 y2, .int .i64 y3, .int .i64 y4] (by rfl) (by rfl) HNW (edge_one _ _ _ _ _) (by omega) hjm hk140 HSB (wc.heap.size + 1) (unhide hHSA) ?_; intro ga cap w14 hown14 hgrow14 hat14 hlt14; have HU14 := hide ((unhide HUD).kept (Gr.Kept.of_grown hgrow14) (fun e => absurd (hgl2 _ e) (Nat.lt_irrefl _))); have t0 := (unhide HU14).cells.2; have tf := (unhide HU14).froz 1))
              all_goals
                have HF := hide (unhide HFIN ga cap w14 hown14 hgrow14)
                clear hown14 hgrow14 hat14 hlt14 HU14 t0 tf q0 q1 p0 p1 hgl2 HFIN OA HNW HSB hHSA HUD c0 c1 c2 c3 c4
                go_wp2
                go_roundw
                case rel =>
                  obtain ⟨A', C', HU', HO2, HX', HE', hb'⟩ := unhide HF
                  exact ⟨k + 1, m + 1, by go_num, by omega, by omega, hb', HE', A', C', HU', HO2, HX'⟩
                case measure => simp [intOf]; omega
        · obtain rfl : k = n := by omega
          obtain ⟨q0, q1⟩ := (unhide HU).cells
          obtain ⟨p0, p1⟩ := (unhide HX).cells
          have HG : Hid (GrAt wr (.agg #[.int .i64 s, .slice A m C]) wr.heap.size s SQ) := by
            have ho := unhide HO
            rw [unhide HQE] at ho
            obtain ⟨a', c', e2, hE⟩ := edgesAt.of_own ho
            simp at e2
            obtain ⟨rfl, rfl⟩ := e2
            exact ⟨_, _, _, rfl, hE⟩
          have HPW : Hid (Calls Try.prog 26 #[.agg #[.int .i64 s, .slice A m C], .slice (some ⟨wr.heap.size, 0, none⟩) 0 0] (wr.alloc (Obj.cells #[] 3)) _) := unhide PA2 _ _ _ (((unhide HG).below (below_new wr (Obj.cells #[] 3)) (Nat.le_refl _)).mono (by simp)) ⟨_, _, rfl, rfl, fun j hj => by simp at hj⟩
          have bq : Below w.heap.size w (wr.alloc (Obj.cells #[] 3)) := hb.alloc hb.size _
          have oq := (unhide HE).below (below_new wr (Obj.cells #[] 3))
          have zq : w.heap.size + 2 ≤ (wr.alloc (Obj.cells #[] 3)).heap.size := by simp; omega
          clear HU HO HG HX PA2 HE
          go_wp2_with fail
          refine (unhide HPW).mono ?_
          rintro e w5 ⟨⟨d, vs, C5, rfl, hGr, hDi, hC5⟩, hb5⟩
          have b5 := bq.trans (hb5.mono bq.size)
          have HE5 := hide (oq.below hb5)
          obtain ⟨A5, c5, rfl⟩ := row_shape hGr.2.1
          have HGr : Hid (Grps w5 (w.heap.size + 2) C5 (.slice A5 RS.length c5) vs RS) := hGr.lower zq
          have HDi := hide hDi
          have hz5 : w.heap.size + 2 ≤ w5.heap.size := Nat.le_trans zq hb5.size
          obtain ⟨L, hL⟩ : ∃ L, L = RS.length := ⟨_, rfl⟩
          have HLL := hide hL
          have hL9 : L ≤ 9 := by rw [hL]; exact (unhide HRL2).1
          rw [← hL] at HGr ⊢
          clear hGr hDi hb5 bq oq zq HPW hL q0 q1 p0 p1 hgl
          go_wp2_with fail
          go_loopw [7, 12] (fun out i wr => ∃ (k : Nat) (G : List (List Int)) (us : List Value), i = .int .i64 (k : Int) ∧ k ≤ L ∧ Hid (G = (RS.take k).filter (fun r => decide (1 < r.length))) ∧ G.length ≤ k ∧ Hid (Grps wr w.heap.size w5.heap.size out us G) ∧ Hid (Dist us) ∧ Hid (∀ u ∈ us, ∃ j, ∃ hj : j < vs.length, j < k ∧ u = vs[j]) ∧ Hid (∀ g, out.ownBlock = some g → g = w.heap.size + 1 ∨ w5.heap.size ≤ g) ∧ Hid (Kept (fun i => i = w.heap.size + 1 ∨ w5.heap.size ≤ i) w5 wr)) (fun _ i _ => L - (intOf i).toNat)
          case atStart => exact ⟨0, [], [], rfl, Nat.zero_le _, rfl, Nat.le_refl _, ⟨rfl, unhide HE5, fun j h => absurd h (by simp)⟩, Dist.nil, fun u hu => (by cases hu), fun g hg => .inl (by simp [Value.ownBlock] at hg; omega), Kept.refl _ _⟩
          case round =>
            clear HE5
            obtain ⟨k, G, us, rfl, hk, HG, hGl, HA, HDI, HME, HOB, HKP⟩ := hrel
            obtain ⟨Aa, ca, rfl⟩ := row_shape (unhide HA).2.1
            by_cases hlt : k < L
            · have hkG : k < RS.length := by have := unhide HLL; omega
              have hgr := (unhide HGr).keptB (unhide HKP) (fun g h1 h2 h3 => by omega)
              have hkv : k < vs.length := by rw [hgr.1]; exact hkG
              have hown := hgr.2.1
              rw [← unhide HLL] at hown
              obtain ⟨g0, c', hA, _, _⟩ := hown.form (by omega)
              simp at hA
              obtain ⟨rfl, rfl⟩ := hA
              have hrow := hgr.2.2 k hkv hkG
              obtain ⟨a1, c1, e1, _⟩ := intsAt_of_own hrow.1
              have hc1 := hown.cellAt k (by omega)
              rw [List.getElem?_eq_getElem hkv, e1] at hc1
              have hdd := fun h => dist_add (us := us) (unhide HDi) hkv (unhide HDI) h
              rw [e1] at hrow hdd
              have HROW := hide hrow
              have HDD := hide (hdd (unhide HME))
              have HMN : Hid (∀ u ∈ us ++ [Value.slice a1 RS[k].length c1], ∃ j, ∃ hj : j < vs.length, j < k + 1 ∧ u = vs[j]) := fun u hu => by
                rcases List.mem_append.1 hu with h | h
                · obtain ⟨j, hj, h1, h2⟩ := unhide HME u h
                  exact ⟨j, hj, by omega, h2⟩
                · have : u = Value.slice a1 RS[k].length c1 := by simpa using h
                  exact ⟨k, hkv, by omega, by rw [this, e1]⟩
              have HMO : Hid (∀ u ∈ us, ∃ j, ∃ hj : j < vs.length, j < k + 1 ∧ u = vs[j]) := fun u hu => by
                obtain ⟨j, hj, h1, h2⟩ := unhide HME u hu
                exact ⟨j, hj, by omega, h2⟩
              have HW2 := hide (unhide HWN k hkG)
              have hl9 := (unhide HRL2).2 _ (List.getElem_mem hkG)
              clear hdd hrow e1 HME hgr hown
              generalize RS[k] = q at hc1 HROW HDD HMN HW2 hl9
              have hki0 : (0 : Int) ≤ (k : Int) := by omega
              have hki1 : (k : Int) < (L : Int) := by omega
              by_cases hw : 1 < q.length
              · have HG' : Hid (G ++ [q] = (RS.take (k + 1)).filter (fun r => decide (1 < r.length))) := by show _ = _; rw [unhide HW2, if_pos hw, unhide HG]
                have hw1 : (1 : Int) < (q.length : Int) := by omega
                have hz6 := (unhide HKP).2.2.2.1
                have b7 := below_new wr (Obj.cells #[Value.slice a1 q.length c1] 30)
                have hA5 := unhide HA
                have hownA := hA5.2.1
                go_wp2_with (at_builtin; refine wpList_append_own_at _ rfl _ _ 36 rfl w.heap.size 30 i2 (.slice none 0 0) 1 24 Try.underlying36 hi2 hy0 hy1 hy2 rfl (by decide) _ _ _ rfl (own_below hownA b7) ⟨wr.heap.size, 0, none⟩ 1 1 [Value.slice a1 q.length c1] rfl rfl (cell_one_new _ _ _) (by simp [Value.oneCell']) ?_ ?_ ?_ ?_)
                · unfold maxLen; omega
                · omega
                · simp; omega
                intro al' w8 hown8 hgrow8 _ hat8
                have hA7 := hA5.below b7
                have hP7 := own_below (unhide HROW).1 b7
                have hk8 : Kept (fun g => (Value.slice Aa G.length ca).ownBlock = some g) (wr.alloc (Obj.cells #[Value.slice a1 q.length c1] 30)) w8 := Gr.Kept.of_grown hgrow8
                have HA8 : Hid (Grps w8 w.heap.size w5.heap.size al' (us ++ [Value.slice a1 q.length c1]) (G ++ [q])) := hA7.snoc (own_lower (by omega) hP7) (fun g hg => by have := (unhide HROW).2 g hg; omega) (Nat.le_refl _) hown8 hk8
                have HOB8 : Hid (∀ g, al'.ownBlock = some g → g = w.heap.size + 1 ∨ w5.heap.size ≤ g) := fun g hg => by
                  rcases hat8 with h | h
                  · rw [h] at hg; exact unhide HOB g hg
                  · rw [h] at hg
                    have e : (wr.alloc (Obj.cells #[Value.slice a1 q.length c1] 30)).heap.size = g := by simpa using hg
                    simp at e
                    omega
                have HKP8 : Hid (Kept (fun i => i = w.heap.size + 1 ∨ w5.heap.size ≤ i) w5 w8) := ((unhide HKP).trans (Kept.of_below b7)).trans (hk8.weak (fun i hi => unhide HOB i hi))
                obtain ⟨Aa8, ca8, rfl⟩ := row_shape hown8
                have hGl8 : (G ++ [q]).length ≤ k + 1 := by simp; omega
                clear hown8 hgrow8 hat8 hA7 hP7 hk8 hownA b7 hA5 HDI HA HOB HKP HG HMO HW2
                go_wp2_with fail
                exact ⟨⟨k + 1, _, _, by go_num, by omega, HG', hGl8, HA8, HDD, HMN, HOB8, HKP8⟩, by simp [intOf]; omega⟩
              · have HG' : Hid (G = (RS.take (k + 1)).filter (fun r => decide (1 < r.length))) := by show _ = _; rw [unhide HW2, if_neg hw, unhide HG, List.append_nil]
                have hw1 : ¬ (1 : Int) < (q.length : Int) := by omega
                clear HDD HMN HW2 HROW HG
                go_wp2_with fail
                exact ⟨⟨k + 1, _, _, by go_num, by omega, HG', by omega, HA, HDI, HMO, HOB, HKP⟩, by simp [intOf]; omega⟩
            · obtain rfl : k = L := by omega
              have hgg := unhide HG
              rw [unhide HLL, List.take_length, unhide HRV] at hgg
              have HS : Hid (SsOwn wr w.heap.size (.slice Aa G.length ca) V) := by
                show SsOwn _ _ _ _
                rw [← hgg]
                exact ⟨us, ⟨w5.heap.size, unhide HA, (unhide HKP).2.2.2.1⟩, unhide HDI⟩
              have hbe := b5.trans ((unhide HKP).below b5.size (fun i hi => by omega))
              clear hgg
              go_wp2_with fail
              go_ret
              exact ⟨⟨_, rfl, unhide HS⟩, hbe⟩
end Lk
end Go.Proofs.Ytnihoabminnbcaa
