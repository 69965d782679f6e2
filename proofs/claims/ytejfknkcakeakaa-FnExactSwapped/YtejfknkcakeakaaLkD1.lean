/-
  The contract of impl.Swapped.
-/
import Derived.Test.YtejfknkcakeakaaLkE
import Derived.Test.YtejfknkcakeakaaLkZ
import Derived.Test.YtejfknkcakeakaaGrImplH
import Derived.Test.YtejfknkcakeakaaGrKCoupleS
namespace Go.Proofs.Ytejfknkcakeakaa
namespace Lk
open Go.RowKit
open Gr (Blk Kept EdgeI CoupleI GrAt CoAt couplesAt GBox below_new InOwn InAt own_below own_lower intsV intsAt_of_own graphOk matchOk match_sound implMatch_any setMany setMany_all below_setCells)

/-- What Swapped tells. -/
def swapR (s : Int) (Q : List EdgeI) (M N : List CoupleI) : List (List Int) := if matchOk s Q M = true ∧ matchOk s Q N = true then (prts (swpF M N) (List.range' 0 9) (endF (swpF M N))).map fun p => setTo p 9 else []

theorem swap_len (s : Int) (Q : List EdgeI) (M N : List CoupleI) : ssz (swapR s Q M N) ≤ 1048576 := by
  unfold ssz swapR
  split
  · have h1 : (prts (swpF M N) (List.range' 0 9) (endF (swpF M N))).length ≤ 9 := by have := prts_length (swpF M N) (List.range' 0 9) (endF (swpF M N)); simpa using this
    have h2 : ∀ (L : List (Nat → Bool)), (L.map fun p => setTo p 9).flatten.length ≤ 9 * L.length := fun L => by
      induction L with
      | nil => simp
      | cons p r ih =>
        have := setTo_length p 9
        simp only [List.map_cons, List.flatten_cons, List.length_append, List.length_cons]
        omega
    have := h2 (prts (swpF M N) (List.range' 0 9) (endF (swpF M N)))
    rw [List.length_map]
    omega
  · simp

/-- The table while the two lists are gone through. -/
def stF (M N : List CoupleI) : Nat → Nat → Nat → Bool
  | 0 => cpl (fun _ _ => false) M 0
  | 1 => cpl (cpl (fun _ _ => false) M M.length) N 0
  | _ => swpF M N

set_option maxRecDepth 100000 in
set_option maxHeartbeats 8000000 in
theorem implSwap_gen (B : Nat) (v : Value) (s : Int) (Q : List EdgeI) (u : Value) (M : List CoupleI) (x : Value) (N : List CoupleI) (h1 : Q.length ≤ 1048576) (h2 : M.length ≤ 1048576) (h3 : N.length ≤ 1048576) (w : World) (hB : B ≤ w.heap.size) (hv : GrAt w v B s Q) (hu : CoAt w u B M) (hx : CoAt w x B N) :
    Calls Try.prog 38 #[v, u, x] w fun e w' => (∃ d, e = .returned d ∧ SsOwn w' w.heap.size d (swapR s Q M N)) ∧ Below w.heap.size w w' := by
  obtain ⟨am, cm, rfl, hM⟩ := hu
  obtain ⟨an, cn, rfl, hN⟩ := hx
  have OM := hide (fun w1 (hb : Below w.heap.size w w1) => implMatch_any v B s Q am M.length cm M h1 h2 w1 (by have := hb.size; omega) (hv.below hb hB) (hM.below hb hB))
  have ON := hide (fun w1 (hb : Below w.heap.size w w1) => implMatch_any v B s Q an N.length cn N h1 h3 w1 (by have := hb.size; omega) (hv.below hb hB) (hN.below hb hB))
  have HAM : Hid (matchOk s Q M = true → ApartC M) := fun h => apartC_of h
  have HAN : Hid (matchOk s Q N = true → ApartC N) := fun h => apartC_of h
  have HR : Hid (matchOk s Q M = true → matchOk s Q N = true → swapR s Q M N = (prts (swpF M N) (List.range' 0 9) (endF (swpF M N))).map fun p => setTo p 9) := fun h k => by unfold swapR; rw [if_pos ⟨h, k⟩]
  have HR0 : Hid (matchOk s Q M = false ∨ matchOk s Q N = false → swapR s Q M N = []) := fun h => by
    unfold swapR
    rw [if_neg]
    rintro ⟨h1, h2⟩
    rcases h with h | h
    · rw [h] at h1; cases h1
    · rw [h] at h2; cases h2
  have EN := hide (fun F T W hW => ends_any F T W hW)
  have PA := hide (fun F f T W hW => parts_any F f T W hW)
  have LL := hide (fun Ps hl v B0 W hv => lists_any v B0 Ps hl W hv)
  have HPL := hide (fun F f => prts_length F (List.range' 0 9) f)
  obtain ⟨a, n', c, rfl, _⟩ := hv
  generalize swapR s Q M N = V at HR HR0 ⊢
  generalize matchOk s Q M = gm at OM HAM HR HR0
  generalize matchOk s Q N = gn at ON HAN HR HR0
  have HCM := hide hM.2
  have HCN := hide hN.2
  obtain ⟨lm, hlm⟩ : ∃ lm, lm = M.length := ⟨_, rfl⟩
  obtain ⟨ln, hln⟩ : ∃ ln, ln = N.length := ⟨_, rfl⟩
  have HLM := hide hlm
  have HLN := hide hln
  rw [← hlm] at OM h2 ⊢
  rw [← hln] at ON h3 ⊢
  have hzt := zero_tb
  have HT0 : Hid ((tb fun _ _ => false) = tb (cpl (fun _ _ => false) M 0)) := by show _ = _; rw [cpl_zero]
  generalize (tb fun _ _ => false) = ZT at hzt HT0
  clear hM hN h1 hlm hln
  go_enter Try.func38, Try.ntmps38
  go_wp2_with fail
  obtain ⟨V1, hV1⟩ : ∃ W, W = w.alloc (Obj.cells #[Value.int .i64 s, Value.slice a n' c] 30) := ⟨_, rfl⟩
  rw [← hV1]
  have x1 : GBox V1 w.heap.size s (.slice a n' c) := by rw [hV1]; exact GBox.new _ _ _
  have b1 : Below w.heap.size w V1 := by rw [hV1]; exact below_new _ _
  clear hV1
  refine (unhide OM V1 b1).mono ?_
  rintro e w2 ⟨rfl, hb2⟩
  have x2 := x1.below hb2
  have b2 := b1.trans (hb2.mono b1.size)
  obtain ⟨p0, p1⟩ := x2.cells
  clear hb2 x1 OM b1
  cases gm
  · have hR := unhide HR0 (.inl rfl)
    subst hR
    go_wp2
    go_ret
    exact ⟨⟨_, rfl, ss_nil _ _⟩, b2⟩
  · go_wp2_with fail
    refine (unhide ON w2 b2).mono ?_
    rintro e w3 ⟨rfl, hb3⟩
    have b3 := b2.trans (hb3.mono b2.size)
    clear hb3 ON p0 p1 x2
    cases gn
    · have hR := unhide HR0 (.inr rfl)
      subst hR
      go_wp2
      go_ret
      exact ⟨⟨_, rfl, ss_nil _ _⟩, b3⟩
    · have hR := unhide HR (by first | rfl | trivial) (by first | rfl | trivial)
      have aM := hide (unhide HAM (by first | rfl | trivial))
      have aN := hide (unhide HAN (by first | rfl | trivial))
      have HRV := hide hR
      clear hR HR HR0 HAM HAN
      go_wp2_with fail
      obtain ⟨V4, hV4⟩ : ∃ W, W = w3.alloc (Obj.cells ZT 65) := ⟨_, rfl⟩
      obtain ⟨V5, hV5⟩ : ∃ W, W = V4.alloc (Obj.cells #[Value.slice am lm cm, Value.slice an ln cn] 50) := ⟨_, rfl⟩
      rw [← hV4, ← hV5]
      have b5 : Below w.heap.size w V5 := by rw [hV5, hV4]; exact (b3.alloc b3.size _).alloc (by simp; have := b3.size; omega) _
      have hz3 := b3.size
      have HT5 : Hid (Blk V5 w3.heap.size (tb (cpl (fun _ _ => false) M 0)) 65) := by show Blk _ _ _ _; rw [← unhide HT0, hV5, hV4]; exact Gr.Blk.new0.alloc
      have HP5 : Hid (Blk V5 (w3.heap.size + 1) #[Value.slice am lm cm, Value.slice an ln cn] 50) := by show Blk _ _ _ _; rw [hV5, hV4]; exact Gr.Blk.new1
      clear hV4 hV5 b3
      generalize w3.heap.size = T at HT5 HP5 hz3
      go_loopw [26] (fun ix wr => ∃ (i : Nat) (x : Int), ix = .int .i64 x ∧ Hid (x = (i : Int)) ∧ i ≤ 2 ∧ Hid (Blk wr T (tb (stF M N i)) 65) ∧ Hid (Blk wr (T + 1) #[Value.slice am lm cm, Value.slice an ln cn] 50) ∧ Below w.heap.size w wr) (fun ix _ => (2 - intOf ix).toNat)
      case atStart => exact ⟨0, 0, rfl, rfl, by omega, HT5, HP5, b5⟩
      case round =>
        clear HT5 HP5 b5
        obtain ⟨i, x, rfl, HXI, hi2, HT, HP, hb⟩ := hrel
        have hzb := hb.size
        have hPl := (unhide HP).lt
        cases i with
        | zero =>
          obtain rfl : x = 0 := by have := unhide HXI; omega
          have hp0 := (unhide HP).cell 0 _ rfl
          obtain ⟨wo, hwo⟩ : ∃ W, W = wr := ⟨_, rfl⟩
          subst hwo
          have HT0 : Hid (Blk wo T (tb (cpl (fun _ _ => false) M 0)) 65) := unhide HT
          have HPo := hide (unhide HP)
          clear HT HP
          go_wp2_with fail
          clear hp0
          go_loopw [32] (fun jx wr => ∃ j : Nat, jx = .int .i64 (j : Int) ∧ j ≤ lm ∧ Hid (Blk wr T (tb (cpl (fun _ _ => false) M j)) 65) ∧ Hid (Blk wr (T + 1) #[Value.slice am lm cm, Value.slice an ln cn] 50) ∧ Below w.heap.size w wr) (fun jx _ => lm - (intOf jx).toNat)
          case atStart => exact ⟨0, rfl, Nat.zero_le _, HT0, HPo, hb⟩
          case round =>
            clear HT0 HPo hb
            obtain ⟨j, rfl, hj, HT, HP, hb⟩ := hrel
            have hTl := (unhide HT).lt
            have hPl := (unhide HP).lt
            have hzb := hb.size
            by_cases hlt : j < lm
            · have hjL : j < M.length := by have := unhide HLM; omega
              obtain ⟨b, off, rfl, hbB, c1, c2⟩ := unhide HCM j hjL
              rw [← hb.cell (p := ⟨b, off + j * 2, none⟩) (by simp; omega)] at c1
              rw [← hb.cell (p := ⟨b, off + j * 2 + 1, none⟩) (by simp; omega)] at c2
              have hq := (unhide aM).1 _ (List.getElem_mem hjL)
              have HNX := hide (cpl_next (fun _ _ => false) M j hjL)
              generalize M[j] = y at c1 c2 hq HNX
              obtain ⟨y0, y1⟩ := y
              simp only at c1 c2 hq HNX
              obtain ⟨q0, q1, q2⟩ := hq
              obtain ⟨k0, rfl⟩ := Int.eq_ofNat_of_zero_le q0
              obtain ⟨k1, rfl⟩ := Int.eq_ofNat_of_zero_le (show 0 ≤ y1 by omega)
              have TU := hide (fun W hW => turn_any T k0 k1 (cpl (fun _ _ => false) M j) (by omega) (by omega) (by omega) W hW)
              have hx2 : (j : Int) < (lm : Int) := by omega
              have hx0 : (0 : Int) ≤ (j : Int) := by omega
              clear q0 q1 q2
              go_wp2_with fail
              obtain ⟨V6, hV6⟩ : ∃ W, W = wr.alloc (Obj.cells #[Value.int .i64 (k0 : Int), Value.int .i64 (k1 : Int)] 88) := ⟨_, rfl⟩
              rw [← hV6]
              have n6 : Below wr.heap.size wr V6 := by rw [hV6]; exact below_new _ _
              have b6 := hb.trans (n6.mono hb.size)
              clear hV6
              refine (unhide TU V6 ((unhide HT).below n6)).mono ?_
              rintro e w7 ⟨rfl, hT7, hk7⟩
              have b7 : Below w.heap.size w w7 := b6.trans (hk7.below b6.size (fun i hi => by omega))
              have HT7 : Hid (Blk w7 T (tb (cpl (fun _ _ => false) M (j + 1))) 65) := by
                show Blk _ _ _ _
                rw [unhide HNX]
                exact hT7
              have HP7 := hide (((unhide HP).below n6).kept hk7 (show ¬ T + 1 = T by omega))
              clear hT7 hk7 n6 TU HNX b6
              go_wp2_with fail
              exact ⟨⟨j + 1, by go_num, by omega, HT7, HP7, b7⟩, by simp [intOf]; omega⟩
            · obtain rfl : lm = j := by omega
              have HTN : Hid (Blk wr T (tb (stF M N 1)) 65) := by
                have h9 := unhide HT
                rw [unhide HLM] at h9
                show Blk _ _ (tb (cpl (cpl (fun _ _ => false) M M.length) N 0)) _
                rw [cpl_zero]
                exact h9
              go_wp2_with fail
              exact ⟨⟨1, 1, by first | rfl | go_num, rfl, by omega, HTN, HP, hb⟩, by simp [intOf]⟩
        | succ i =>
        cases i with
        | zero =>
          obtain rfl : x = 1 := by have := unhide HXI; omega
          have hp0 := (unhide HP).cell 1 _ rfl
          obtain ⟨wo, hwo⟩ : ∃ W, W = wr := ⟨_, rfl⟩
          subst hwo
          have HT0 : Hid (Blk wo T (tb (cpl (cpl (fun _ _ => false) M M.length) N 0)) 65) := unhide HT
          have HPo := hide (unhide HP)
          clear HT HP
          go_wp2_with fail
          clear hp0
          go_loopw [32] (fun jx wr => ∃ j : Nat, jx = .int .i64 (j : Int) ∧ j ≤ ln ∧ Hid (Blk wr T (tb (cpl (cpl (fun _ _ => false) M M.length) N j)) 65) ∧ Hid (Blk wr (T + 1) #[Value.slice am lm cm, Value.slice an ln cn] 50) ∧ Below w.heap.size w wr) (fun jx _ => ln - (intOf jx).toNat)
          case atStart => exact ⟨0, rfl, Nat.zero_le _, HT0, HPo, hb⟩
          case round =>
            clear HT0 HPo hb
            obtain ⟨j, rfl, hj, HT, HP, hb⟩ := hrel
            have hTl := (unhide HT).lt
            have hPl := (unhide HP).lt
            have hzb := hb.size
            by_cases hlt : j < ln
            · have hjL : j < N.length := by have := unhide HLN; omega
              obtain ⟨b, off, rfl, hbB, c1, c2⟩ := unhide HCN j hjL
              rw [← hb.cell (p := ⟨b, off + j * 2, none⟩) (by simp; omega)] at c1
              rw [← hb.cell (p := ⟨b, off + j * 2 + 1, none⟩) (by simp; omega)] at c2
              have hq := (unhide aN).1 _ (List.getElem_mem hjL)
              have HNX := hide (cpl_next (cpl (fun _ _ => false) M M.length) N j hjL)
              generalize N[j] = y at c1 c2 hq HNX
              obtain ⟨y0, y1⟩ := y
              simp only at c1 c2 hq HNX
              obtain ⟨q0, q1, q2⟩ := hq
              obtain ⟨k0, rfl⟩ := Int.eq_ofNat_of_zero_le q0
              obtain ⟨k1, rfl⟩ := Int.eq_ofNat_of_zero_le (show 0 ≤ y1 by omega)
              have TU := hide (fun W hW => turn_any T k0 k1 (cpl (cpl (fun _ _ => false) M M.length) N j) (by omega) (by omega) (by omega) W hW)
              have hx2 : (j : Int) < (ln : Int) := by omega
              have hx0 : (0 : Int) ≤ (j : Int) := by omega
              clear q0 q1 q2
              go_wp2_with fail
              obtain ⟨V6, hV6⟩ : ∃ W, W = wr.alloc (Obj.cells #[Value.int .i64 (k0 : Int), Value.int .i64 (k1 : Int)] 88) := ⟨_, rfl⟩
              rw [← hV6]
              have n6 : Below wr.heap.size wr V6 := by rw [hV6]; exact below_new _ _
              have b6 := hb.trans (n6.mono hb.size)
              clear hV6
              refine (unhide TU V6 ((unhide HT).below n6)).mono ?_
              rintro e w7 ⟨rfl, hT7, hk7⟩
              have b7 : Below w.heap.size w w7 := b6.trans (hk7.below b6.size (fun i hi => by omega))
              have HT7 : Hid (Blk w7 T (tb (cpl (cpl (fun _ _ => false) M M.length) N (j + 1))) 65) := by
                show Blk _ _ _ _
                rw [unhide HNX]
                exact hT7
              have HP7 := hide (((unhide HP).below n6).kept hk7 (show ¬ T + 1 = T by omega))
              clear hT7 hk7 n6 TU HNX b6
              go_wp2_with fail
              exact ⟨⟨j + 1, by go_num, by omega, HT7, HP7, b7⟩, by simp [intOf]; omega⟩
            · obtain rfl : ln = j := by omega
              have HTN : Hid (Blk wr T (tb (stF M N 2)) 65) := by
                have h9 := unhide HT
                rw [unhide HLN] at h9
                exact h9
              go_wp2_with fail
              exact ⟨⟨2, 2, by first | rfl | go_num, rfl, by omega, HTN, HP, hb⟩, by simp [intOf]⟩
        | succ i =>
          obtain rfl : i = 0 := by omega
          obtain rfl : x = 2 := by have := unhide HXI; omega
          have HT9 : Hid (Blk wr T (tb (swpF M N)) 65) := unhide HT
          obtain ⟨F, hF⟩ : ∃ F, F = swpF M N := ⟨_, rfl⟩
          rw [← hF] at HT9 HRV
          have ENW := hide (unhide EN F T wr (unhide HT9))
          clear HT HP hF
          go_wp2_with fail
          refine (unhide ENW).mono ?_
          rintro e w6 ⟨rfl, hb6⟩
          have b6 := hb.trans (hb6.mono hb.size)
          have PAW := hide (unhide PA F (endF F) T w6 ((unhide HT9).below hb6))
          clear hb6 ENW
          go_wp2_with fail
          refine (unhide PAW).mono ?_
          rintro e w7 ⟨⟨d7, rfl, ho7⟩, hb7⟩
          have b7 := b6.trans (hb7.mono b6.size)
          obtain ⟨A7, c7, rfl⟩ := ho7.shape
          have LLW := hide (unhide LL _ (by have := unhide HPL F (endF F); simpa using this) _ _ w7 ho7)
          clear ho7 hb7 PAW
          go_wp2_with fail
          refine (unhide LLW).mono ?_
          rintro e w8 ⟨⟨d8, rfl, ho8⟩, hb8⟩
          have b8 := b7.trans (hb8.mono b7.size)
          obtain ⟨A8, c8, h8⟩ := ho8.shape
          rw [List.length_map] at h8
          subst h8
          have HO8 := hide (ho8.lower b7.size)
          have hrv := unhide HRV
          subst hrv
          clear ho8 hb8
          go_wp2
          go_ret
          exact ⟨⟨_, rfl, unhide HO8⟩, b8⟩

end Lk
end Go.Proofs.Ytejfknkcakeakaa
