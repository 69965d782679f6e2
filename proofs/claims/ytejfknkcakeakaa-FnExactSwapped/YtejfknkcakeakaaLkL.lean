/-
  Lonely: both contracts.
-/
import Derived.Test.YtejfknkcakeakaaLkI
import Derived.Test.YtejfknkcakeakaaGrImplH
import Derived.Test.YtejfknkcakeakaaGrMatch
import Derived.Test.YtejfknkcakeakaaGrKCoupleS
import Derived.Test.YtejfknkcakeakaaGrBestMath
namespace Go.Proofs.Ytejfknkcakeakaa
namespace Lk
open Go.RowKit
open Gr (Blk Kept EdgeI CoupleI GrAt CoAt couplesAt GBox below_new below_setCells results_cell1 setMany setMany_all InOwn InAt intsV intsAt_of_own info3 graphOk matchOk specMatch_any implMatch_any match_sound match_pm)

/-- Is a vertex in a couple? -/
def inC (M : List CoupleI) (v : Int) : Bool := M.any fun c => c.A == v || c.B == v

/-- Whoever is in none. -/
def loneF (M : List CoupleI) (j : Nat) : Bool := !inC M (j : Int)

def loneR (s : Int) (Q : List EdgeI) (M : List CoupleI) : List Int := if matchOk s Q M = true then setTo (loneF M) s.toNat else []

theorem loneR_len (s : Int) (Q : List EdgeI) (M : List CoupleI) : (loneR s Q M).length ≤ 9 := by
  unfold loneR
  split
  · rename_i h
    have := ok_size (match_sound h).1
    exact Nat.le_trans (setTo_length _ _) (by omega)
  · simp

theorem inC_next (M : List CoupleI) (v : Int) (i : Nat) (h : i < M.length) : inC (M.take (i + 1)) v = (inC (M.take i) v || (M[i].A == v || M[i].B == v)) := by
  unfold inC
  rw [List.take_succ_eq_append_getElem h, List.any_append]
  simp

set_option maxRecDepth 100000 in
set_option maxHeartbeats 4000000 in
theorem specLone_gen (B : Nat) (v : Value) (s : Int) (Q : List EdgeI) (u : Value) (M : List CoupleI) (h1 : Q.length ≤ 1048576) (h2 : M.length ≤ 1048576) (w : World) (hB : B ≤ w.heap.size) (hv : GrAt w v B s Q) (hu : CoAt w u B M) :
    Calls Try.prog 32 #[v, u] w fun e w' => (∃ d, e = .returned d ∧ InOwn w' w.heap.size d (loneR s Q M)) ∧ Below w.heap.size w w' := by
  obtain ⟨i0, hi, hz0, hz1, hz2⟩ := info_parts info3
  obtain ⟨am, cm, rfl, hM⟩ := hu
  have OK := hide (fun w1 (hb : Below w.heap.size w w1) => specMatch_any v B s Q am M.length cm M h1 h2 w1 (by have := hb.size; omega) (hv.below hb hB) (hM.below hb hB))
  have SZ : Hid (matchOk s Q M = true → 0 ≤ s ∧ s ≤ 9) := fun h => ok_size (match_sound h).1
  have hR : loneR s Q M = setTo (loneF M) (if matchOk s Q M = true then s.toNat else 0) := by unfold loneR; split <;> rfl
  rw [hR]
  obtain ⟨a, n, c, rfl, _⟩ := hv
  generalize matchOk s Q M = gk at OK SZ
  obtain ⟨N, hN⟩ : ∃ N, N = if gk = true then s.toNat else 0 := ⟨_, rfl⟩
  rw [← hN]
  have HN1 : Hid (gk = true → s = (N : Int) ∧ N ≤ 9) := fun h => by have := unhide SZ h; rw [if_pos h] at hN; omega
  have HN0 : Hid (gk = false → N = 0) := fun h => by rw [hN, h]; rfl
  have hN9 : N ≤ 9 := by
    cases gk
    · rw [unhide HN0 rfl]; omega
    · exact (unhide HN1 rfl).2
  have HC := hide hM.2
  have HS1 := hide (fun k h => setTo_in (f := loneF M) (k := k) h)
  have HS0 := hide (fun k h => setTo_out (f := loneF M) (k := k) h)
  have HSL := hide (setTo_length (loneF M))
  have HNX := hide (fun v i h => inC_next M v i h)
  have HEND : Hid (∀ k : Nat, (!inC (M.take M.length) (k : Int)) = loneF M k) := fun k => by rw [List.take_length]; rfl
  have H0 : Hid (∀ k : Nat, inC (M.take 0) (k : Int) = false) := fun k => by simp [inC]
  obtain ⟨m, hm⟩ : ∃ m, m = M.length := ⟨_, rfl⟩
  have HMM : Hid (m = M.length) := hm
  rw [← hm] at HEND OK h2 ⊢
  clear hN hR SZ hM h1 hm
  go_enter Try.func32, Try.ntmps32
  go_wp2_with fail
  obtain ⟨V1, hV1⟩ : ∃ W, W = w.alloc (Obj.cells #[Value.int .i64 s, Value.slice a n c] 30) := ⟨_, rfl⟩
  obtain ⟨V2, hV2⟩ : ∃ W, W = V1.alloc (Obj.cells #[] 3) := ⟨_, rfl⟩
  rw [← hV1, ← hV2]
  have x2 : GBox V2 w.heap.size s (.slice a n c) := by rw [hV2, hV1]; exact (GBox.new _ _ _).below (below_new _ _)
  have b2 : Below w.heap.size w V2 := by rw [hV2, hV1]; exact (below_new _ _).alloc (by simp) _
  have HO2 : Hid (InOwn V2 (w.heap.size + 1) (.slice (some ⟨w.heap.size + 1, 0, none⟩) 0 0) []) := by
    show InOwn _ _ _ _
    rw [hV2]
    have h := World.ownsRow_made V1 (e := 3) #[] 0 (Nat.le_refl _) (Nat.zero_le _) (show (#[] : Array Value).size = 0 * 1 from rfl)
    rw [show V1.heap.size = w.heap.size + 1 by rw [hV1]; simp] at h
    exact h
  clear hV1 hV2
  obtain ⟨p0, p1⟩ := x2.cells
  refine (unhide OK V2 b2).mono ?_
  rintro e w3 ⟨rfl, hb3⟩
  have x3 := x2.below hb3
  have b3 := b2.trans (hb3.mono b2.size)
  have HO3 := hide ((unhide HO2).below hb3)
  have z3 := x3.lt
  have HX3 := hide x3
  have hz3 := b3.size
  clear hb3 x2 x3 p0 p1 HO2 OK
  go_wp2_with fail
  go_loopw [5, 7] (fun out i wr => ∃ k : Nat, i = .int .i64 (k : Int) ∧ k ≤ N ∧ Hid (InOwn wr (w.heap.size + 1) out (setTo (loneF M) k)) ∧ Hid (GBox wr w.heap.size s (.slice a n c)) ∧ Below w.heap.size w wr) (fun _ i _ => N - (intOf i).toNat)
  case atStart => exact ⟨0, rfl, Nat.zero_le _, unhide HO3, unhide HX3, b3⟩
  case round =>
    clear HO3 HX3 b3 z3 hz3
    obtain ⟨k, rfl, hk, HO, HX, hb⟩ := hrel
    obtain ⟨A, cp, rfl, _⟩ := intsAt_of_own (unhide HO)
    have hwl := (unhide HX).lt
    obtain ⟨p0, p1⟩ := (unhide HX).cells
    by_cases hlt : k < N
    · cases gk with
      | false => exact absurd hlt (by rw [unhide HN0 rfl]; omega)
      | true =>
        obtain ⟨hs, _⟩ := unhide HN1 rfl
        have hx1 : (k : Int) < s := by omega
        have hx0 : (0 : Int) ≤ (k : Int) := by omega
        clear hs
        go_wp2_with fail
        go_loopw [8, 9] (fun al i wq => ∃ j : Nat, i = .int .i64 (j : Int) ∧ j ≤ m ∧ al = .bool (!inC (M.take j) (k : Int)) ∧ wq = wr) (fun _ i _ => m - (intOf i).toNat)
        case atStart => exact ⟨0, rfl, Nat.zero_le _, by rw [unhide H0 k]; rfl, rfl⟩
        case round =>
          obtain ⟨j, rfl, hj, rfl, rfl⟩ := hrel
          by_cases hjm : j < m
          · have hjM : j < M.length := by have := unhide HMM; omega
            obtain ⟨b, off, rfl, hbB, c1, c2⟩ := unhide HC j hjM
            rw [← hb.cell (p := ⟨b, off + j * 2, none⟩) (by simp; omega)] at c1
            rw [← hb.cell (p := ⟨b, off + j * 2 + 1, none⟩) (by simp; omega)] at c2
            have hnx := unhide HNX (k : Int) j hjM
            generalize hin : inC (M.take j) (k : Int) = al at hnx
            generalize M[j] = q at c1 c2 hnx
            obtain ⟨y0, y1⟩ := q
            simp only at c1 c2 hnx
            have hx2 : (j : Int) < (m : Int) := by omega
            have hx3 : (0 : Int) ≤ (j : Int) := by omega
            have HNXJ := hide hnx
            clear hnx hin
            cases al
            · by_cases e0 : y0 = (k : Int)
              · have t0 : (y0 != (k : Int)) = false := by simp [e0]
                have t1 : (y0 == (k : Int)) = true := by simp [e0]
                rw [t1] at HNXJ
                clear e0 t1
                go_wp2_with fail
                exact ⟨⟨j + 1, by go_num, by omega, by rw [unhide HNXJ]; rfl, by first | rfl | trivial⟩, by simp [intOf]; omega⟩
              · have t0 : (y0 != (k : Int)) = true := by simp [e0]
                have t1 : (y0 == (k : Int)) = false := by simp [e0]
                rw [t1] at HNXJ
                clear e0 t1
                by_cases e1 : y1 = (k : Int)
                · have u0 : (y1 != (k : Int)) = false := by simp [e1]
                  have u1 : (y1 == (k : Int)) = true := by simp [e1]
                  rw [u1] at HNXJ
                  clear e1 u1
                  go_wp2_with fail
                  exact ⟨⟨j + 1, by go_num, by omega, by rw [unhide HNXJ]; rfl, by first | rfl | trivial⟩, by simp [intOf]; omega⟩
                · have u0 : (y1 != (k : Int)) = true := by simp [e1]
                  have u1 : (y1 == (k : Int)) = false := by simp [e1]
                  rw [u1] at HNXJ
                  clear e1 u1
                  go_wp2_with fail
                  exact ⟨⟨j + 1, by go_num, by omega, by rw [unhide HNXJ]; rfl, by first | rfl | trivial⟩, by simp [intOf]; omega⟩
            · go_wp2_with fail
              exact ⟨⟨j + 1, by go_num, by omega, by rw [unhide HNXJ]; rfl, by first | rfl | trivial⟩, by simp [intOf]; omega⟩
          · obtain rfl : j = m := by omega
            have he := unhide HEND k
            rw [he]
            clear he
            cases hq : loneF M k
            · have HF := hide (unhide HS0 k hq)
              clear hq
              go_wp2_with fail
              exact ⟨⟨k + 1, by go_num, by omega, (by rw [unhide HF]; exact unhide HO), unhide HX, hb⟩, by simp [intOf]; omega⟩
            · have HF := hide (unhide HS1 k hq)
              have hfl := unhide HSL k
              have hown := unhide HO
              unfold InOwn at hown
              have hzb := hb.size
              clear hq HO p0 p1
              go_wp2_with (at_builtin; refine wpList_append_own _ rfl _ _ 26 rfl (w.heap.size + 1) 3 i0 (.int .i64 0) 1 8 Try.underlying26 hi hz0 hz1 hz2 rfl (by decide) _ _ _ rfl (hown.alloc _) ⟨wr.heap.size, 0, none⟩ 1 1 [.int .i64 (k : Int)] rfl rfl (cell_one_new _ _ _) (one_intL _) ?_ ?_ ?_ ?_)
              · unfold maxLen; omega
              · omega
              · first | omega | (simp; omega)
              intro v' w4 hown' hgrow _
              have hb4 := below_append hb (by omega) (Gr.own_lower (show w.heap.size ≤ w.heap.size + 1 by omega) hown) hgrow
              have hX4 : GBox w4 w.heap.size s (.slice a n c) := by
                have h9 := (unhide HX).below (below_new wr (Obj.cells #[Value.int .i64 (k : Int)] 3))
                exact (hgrow.block _ h9.lt (fun e => by have h8 := hown.lt w.heap.size e.symm; omega)).trans h9
              rw [← intsV_snocL, ← unhide HF] at hown'
              have hfe : (setTo (loneF M) k).length + 1 = (setTo (loneF M) (k + 1)).length := by rw [unhide HF]; simp
              rw [hfe] at hown'
              have HO4 : Hid (InOwn w4 (w.heap.size + 1) v' (setTo (loneF M) (k + 1))) := hown'
              have HX4 := hide hX4
              clear hown' hgrow hown HF hfe hfl hX4
              go_wp2_with fail
              exact ⟨⟨k + 1, by go_num, by omega, unhide HO4, unhide HX4, hb4⟩, by simp [intOf]; omega⟩
    · obtain rfl : k = N := by omega
      have HO' := hide ((unhide HO).lower (show w.heap.size ≤ w.heap.size + 1 by omega))
      cases gk with
      | false =>
        by_cases hs : ((k : Nat) : Int) < s
        · go_wp2_with fail
          go_ret
          exact ⟨⟨_, rfl, unhide HO'⟩, hb⟩
        · go_wp2_with fail
          go_ret
          exact ⟨⟨_, rfl, unhide HO'⟩, hb⟩
      | true =>
        obtain ⟨hs, _⟩ := unhide HN1 rfl
        have hs : ¬ ((k : Nat) : Int) < s := by omega
        go_wp2_with fail
        go_ret
        exact ⟨⟨_, rfl, unhide HO'⟩, hb⟩

end Lk
end Go.Proofs.Ytejfknkcakeakaa
