/-
 LkL, LkO.
-/
import Derived.Test.YtnihoabminnbcaaJ19
import Derived.Test.YtnihoabminnbcaaJ24
import Derived.Test.YtnihoabminnbcaaJ13
import Derived.Test.YtnihoabminnbcaaJ3
namespace Go.Proofs.Ytnihoabminnbcaa
namespace Lk
open Go.RowKit
open Gr (Blk Kept EdgeI CoupleI GrAt CoAt couplesAt GBox below_new below_setCells results_cell1 setMany setMany_all InOwn InAt intsV intsAt_of_own info3 graphOk matchOk specMatch_any implMatch_any match_sound match_pm)
/-- Is a vertex in a couple? -/
def inC (M : List CoupleI) (v : Int) : Bool := M.any fun c => c.A == v || c.B == v
/-- Whoever is in none. -/
def loneF (M : List CoupleI) (j : Nat) : Bool := !inC M (j : Int)
def loneR (s : Int) (Q : List EdgeI) (M : List CoupleI) : List Int := if matchOk s Q M = true then setTo (loneF M) s.toNat else []
theorem loneR_len (s : Int) (Q : List EdgeI) (M : List CoupleI) : (loneR s Q M).length ≤ 9 := by
  unfold loneR
  split
  · rename_i h
    have := ok_size (match_sound h).1
    exact Nat.le_trans (setTo_length _ _) (by omega)
  · simp
theorem inC_next (M : List CoupleI) (v : Int) (i : Nat) (h : i < M.length) : inC (M.take (i + 1)) v = (inC (M.take i) v || (M[i].A == v || M[i].B == v)) := by
  unfold inC
  rw [List.take_succ_eq_append_getElem h, List.any_append]
  simp
/-- The vertices below n that are in none of the first couples. -/
def loneTo (M : List CoupleI) (n j : Nat) : Nat → Bool := fun v => decide (v < n) && !inC (M.take j) (v : Int)
theorem lone_next (M : List CoupleI) (n j : Nat) (h : j < M.length) (a b : Nat) (ha : M[j].A = (a : Int)) (hb : M[j].B = (b : Int)) :
    ((fl (loneTo M n j)).setIfInBounds a (.bool false)).setIfInBounds b (.bool false) = fl (loneTo M n (j + 1)) := by
  rw [fl_set, fl_set]
  refine fl_congr (fun v _ => ?_)
  unfold loneTo
  rw [inC_next M _ j h, ha, hb]
  by_cases h1 : v = b
  · subst h1; simp
  · by_cases h2 : v = a
    · subst h2; simp
    · have e1 : ((a : Int) == (v : Int)) = false := by simp; omega
      have e2 : ((b : Int) == (v : Int)) = false := by simp; omega
      simp [h1, h2, e1, e2]
set_option maxRecDepth 100000 in
set_option maxHeartbeats 4000000 in
theorem implLone_gen (B : Nat) (v : Value) (s : Int) (Q : List EdgeI) (u : Value) (M : List CoupleI) (h1 : Q.length ≤ 1048576) (h2 : M.length ≤ 1048576) (w : World) (hB : B ≤ w.heap.size) (hv : GrAt w v B s Q) (hu : CoAt w u B M) :
    Calls Try.prog 10 #[v, u] w fun e w' => (∃ d, e = .returned d ∧ InOwn w' w.heap.size d (loneR s Q M)) ∧ Below w.heap.size w w' := by
  obtain ⟨am, cm, rfl, hM⟩ := hu
  have OK := hide (fun w1 (hb : Below w.heap.size w w1) => implMatch_any v B s Q am M.length cm M h1 h2 w1 (by have := hb.size; omega) (hv.below hb hB) (hM.below hb hB))
  have HOK : Hid (matchOk s Q M = true → 0 ≤ s ∧ s ≤ 9 ∧ loneR s Q M = setTo (loneF M) s.toNat ∧ ∀ x ∈ M, 0 ≤ x.A ∧ x.A < x.B ∧ x.B < s) := fun h => by
    obtain ⟨hg, _, hm⟩ := match_sound h
    obtain ⟨s0, s9⟩ := ok_size hg
    refine ⟨s0, s9, by unfold loneR; rw [if_pos h], fun x hx => ?_⟩
    have := (match_pm hg M none [] hm).1 x hx
    exact ⟨this.1, this.2.1, this.2.2.1⟩
  have HNO : Hid (matchOk s Q M = false → loneR s Q M = []) := fun h => by unfold loneR; rw [h]; rfl
  obtain ⟨a, n, c, rfl, _⟩ := hv
  generalize loneR s Q M = R at HOK HNO ⊢
  generalize matchOk s Q M = gk at OK HOK HNO
  obtain ⟨m, hm⟩ : ∃ m, m = M.length := ⟨_, rfl⟩
  have HMM : Hid (m = M.length) := hm
  have HC := hide hM.2
  rw [← hm] at OK h2 ⊢
  have hzv := zero_fl
  have HZ : Hid (Array.size (fl fun _ => false) = 9) := fl_size _
  generalize (fl fun _ => false) = Z at hzv HZ
  clear hM h1 hm
  go_enter Try.func10, Try.ntmps10
  go_wp2_with fail
  obtain ⟨V1, hV1⟩ : ∃ W, W = w.alloc (Obj.cells #[Value.int .i64 s, Value.slice a n c] 26) := ⟨_, rfl⟩
  rw [← hV1]
  have x1 : GBox V1 w.heap.size s (.slice a n c) := by rw [hV1]; exact GBox.new _ _ _
  have b1 : Below w.heap.size w V1 := by rw [hV1]; exact below_new _ _
  clear hV1
  refine (unhide OK V1 b1).mono ?_
  rintro e w2 ⟨rfl, hb2⟩
  have x2 := x1.below hb2
  have b2 := b1.trans (hb2.mono b1.size)
  obtain ⟨p0, p1⟩ := x2.cells
  have z2 := x2.lt
  clear hb2 x1 x2 OK b1
  cases gk
  · have hR := unhide HNO rfl
    subst hR
    go_wp2
    go_ret
    exact ⟨⟨_, rfl, own_nil _ _⟩, b2⟩
  · obtain ⟨s0, s9, hR, hin⟩ := unhide HOK rfl
    obtain ⟨N, rfl⟩ := Int.eq_ofNat_of_zero_le s0
    have HRE : Hid (R = setTo (loneTo M N m) 9) := by
      show _ = _
      obtain ⟨d, hd⟩ : ∃ d, 9 = N + d := ⟨9 - N, by omega⟩
      rw [hR, hd, setTo_low _ N d (fun j h _ => by unfold loneTo; rw [decide_eq_false (by omega)]; rfl), Int.toNat_natCast]
      refine setTo_congr (fun j hj => ?_)
      unfold loneTo loneF
      rw [decide_eq_true hj, unhide HMM, List.take_length, Bool.true_and]
    have HIN := hide hin
    have AV := hide (fun W => allV_any N (by omega) W)
    have H0 : Hid (fl (allF N) = fl (loneTo M N 0)) := fl_congr (fun j _ => by unfold allF loneTo inC; simp)
    have HLN := hide (fun j h a b ha hb => lone_next M N j h a b ha hb)
    have hi2 := hide (infoVF (allF N))
    have h1C := hide (fl_one (allF N))
    have HCS := hide (fl_size (allF N))
    generalize fl (allF N) = C at AV H0 hi2 h1C HCS
    clear hR hin HOK HNO
    go_wp2_with fail
    refine (unhide AV w2).mono ?_
    rintro e w3 ⟨rfl, hb3⟩
    have b3 := b2.trans (hb3.mono b2.size)
    have z3 : w.heap.size < w3.heap.size := Nat.lt_of_lt_of_le z2 hb3.size
    obtain ⟨V3, hV3⟩ : ∃ W, W = w3.alloc (Obj.cells Z 60) := ⟨_, rfl⟩
    have HB3 : Hid (Blk V3 w3.heap.size Z 60) := by show Blk _ _ _ _; rw [hV3]; exact Gr.Blk.new0
    have t3 : Hid (V3.there w3.heap.size 0 C.size) := (unhide HB3).there 0 _ (by rw [unhide HZ, unhide HCS]; omega)
    obtain ⟨V4, hV4⟩ : ∃ W, W = V3.setCells w3.heap.size 0 C.toList := ⟨_, rfl⟩
    have HC4 : Hid (Blk V4 w3.heap.size (fl (loneTo M N 0)) 60) := by
      have h := Gr.Blk.many C.toList 0 (unhide HB3)
      rw [setMany_all _ _ (by rw [unhide HZ, unhide HCS])] at h
      rw [hV4, ← unhide H0]
      exact h
    have b4 : Below w.heap.size w V4 := by rw [hV4, hV3]; exact below_setCells _ _ b3.size _ _ _ _ (b3.alloc b3.size _)
    rw [hV3] at t3 hV4
    clear hb3 HB3 hV3 AV p0 p1
    go_wp2_with (first
      | refine wpList_store_mid rfl 60 _ _ rfl w3.heap.size 0 C rfl rfl (unhide t3) (unhide hi2) (unhide h1C) ?_)
    rw [← hV4]
    have hgz := b3.size
    clear hV4 t3
    generalize w3.heap.size = g at HC4 z3 hgz
    go_loopw [17] (fun i wr => ∃ j : Nat, i = .int .i64 (j : Int) ∧ j ≤ m ∧ Hid (Blk wr g (fl (loneTo M N j)) 60) ∧ Below w.heap.size w wr) (fun i _ => m - (intOf i).toNat)
    case atStart => exact ⟨0, rfl, Nat.zero_le _, HC4, b4⟩
    case round =>
      obtain ⟨j, rfl, hj, HT, hb⟩ := hrel
      have hgl := (unhide HT).lt
      by_cases hlt : j < m
      · have hjM : j < M.length := by have := unhide HMM; omega
        obtain ⟨b, off, rfl, hbB, c1, c2⟩ := unhide HC j hjM
        rw [← hb.cell (p := ⟨b, off + j * 2, none⟩) (by simp; omega)] at c1
        rw [← hb.cell (p := ⟨b, off + j * 2 + 1, none⟩) (by simp; omega)] at c2
        have hq := unhide HIN _ (List.getElem_mem hjM)
        have HS := hide (unhide HLN j hjM)
        generalize M[j] = q at c1 c2 hq HS
        obtain ⟨y0, y1⟩ := q
        simp only at c1 c2 hq HS
        obtain ⟨q0, q1, q2⟩ := hq
        obtain ⟨k0, rfl⟩ := Int.eq_ofNat_of_zero_le q0
        obtain ⟨k1, rfl⟩ := Int.eq_ofNat_of_zero_le (show 0 ≤ y1 by omega)
        have HS2 := hide (unhide HS k0 k1 rfl rfl)
        have hx2 : (j : Int) < (m : Int) := by omega
        have hx0 : (0 : Int) ≤ (j : Int) := by omega
        have hy0 : (0 : Int) ≤ (k0 : Int) := by omega
        have hy1 : (k0 : Int) < 9 := by omega
        have hy2 : (0 : Int) ≤ (k1 : Int) := by omega
        have hy3 : (k1 : Int) < 9 := by omega
        have hk01 : k0 ≠ k1 := by omega
        clear HS q0 q1 q2
        go_wp2_with fail
        obtain ⟨V5, hV5⟩ : ∃ W, W = wr.alloc (Obj.cells #[Value.int .i64 (k0 : Int), Value.int .i64 (k1 : Int)] 58) := ⟨_, rfl⟩
        rw [← hV5]
        have n5 : Below wr.heap.size wr V5 := by rw [hV5]; exact below_new _ _
        have u5 : Blk V5 wr.heap.size #[Value.int .i64 (k0 : Int), Value.int .i64 (k1 : Int)] 58 := by rw [hV5]; exact Gr.Blk.new0
        have b5 := hb.trans (n5.mono hb.size)
        have T5 := (unhide HT).below n5
        have e0 := u5.cell 0 _ rfl
        have e1 := u5.cell 1 _ rfl
        have f0 := T5.froz k0
        have f1 := T5.froz k1
        have d0 := T5.cell k0 _ (fl_at _ k0 (by omega))
        have d1 := T5.cell k1 _ (fl_at _ k1 (by omega))
        generalize loneTo M N j k0 = g0 at d0
        generalize loneTo M N j k1 = g1 at d1
        have hT6 : Hid (Blk ((V5.setCell ⟨g, k0, none⟩ (.bool false)).setCell ⟨g, k1, none⟩ (.bool false)) g (fl (loneTo M N (j + 1))) 60) := by
          show Blk _ _ _ _
          rw [← unhide HS2]
          exact (T5.set k0 _).set k1 _
        have hT6' : Hid (Blk ((V5.setCell ⟨g, k1, none⟩ (.bool false)).setCell ⟨g, k0, none⟩ (.bool false)) g (fl (loneTo M N (j + 1))) 60) := by
          show Blk _ _ _ _
          rw [← unhide HS2, Array.setIfInBounds_comm _ _ hk01]
          exact (T5.set k1 _).set k0 _
        have b6 : Below w.heap.size w ((V5.setCell ⟨g, k0, none⟩ (.bool false)).setCell ⟨g, k1, none⟩ (.bool false)) := (b5.setCell (p := ⟨g, k0, none⟩) (by simp; omega) _).setCell (p := ⟨g, k1, none⟩) (by simp; omega) _
        have b6' : Below w.heap.size w ((V5.setCell ⟨g, k1, none⟩ (.bool false)).setCell ⟨g, k0, none⟩ (.bool false)) := (b5.setCell (p := ⟨g, k1, none⟩) (by simp; omega) _).setCell (p := ⟨g, k0, none⟩) (by simp; omega) _
        have hng : ¬ wr.heap.size = g := by omega
        have hng' : ¬ g = wr.heap.size := by omega
        clear hV5 n5 u5 T5 b5 c1 c2 HS2 hb
        go_region
        go_wp2_with fail
        all_goals first
          | exact ⟨⟨j + 1, by go_num, by omega, hT6, b6⟩, by simp [intOf]; omega⟩
          | exact ⟨⟨j + 1, by go_num, by omega, hT6', b6'⟩, by simp [intOf]; omega⟩
          | exact ⟨⟨j + 1, by go_num, by omega, (unhide hT6).drew, b6.drew⟩, by simp [intOf]; omega⟩
          | exact ⟨⟨j + 1, by go_num, by omega, (unhide hT6').drew, b6'.drew⟩, by simp [intOf]; omega⟩
      · obtain rfl : j = m := by omega
        have HR1 := hide (unhide HT).range
        have hi1 := hide (infoVL (loneTo M N j))
        have LS := hide (fun W => list_any (loneTo M N j) W)
        rw [← unhide HRE] at LS
        generalize fl (loneTo M N j) = C2 at HR1 hi1 LS
        clear HT
        go_wp2_with (first
          | refine wpList_load_mid rfl 60 _ rfl g 0 rfl C2.toList _ (unhide HR1) Try.underlying60 rfl (unhide hi1) ?_)
        refine (unhide LS wr).mono ?_
        rintro e w8 ⟨⟨d, rfl, ho⟩, hb8⟩
        obtain ⟨A, cp, rfl, _⟩ := intsAt_of_own ho
        have HO := hide (ho.lower hb.size)
        have b8 := hb.trans (hb8.mono hb.size)
        clear ho hb8
        go_wp2
        go_ret
        exact ⟨⟨_, rfl, unhide HO⟩, b8⟩
end Lk
end Go.Proofs.Ytnihoabminnbcaa
