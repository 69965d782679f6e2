/-
  The contract of impl.FlushDevice.
-/
import Derived.Test.YtobdmjoonjblpaaGreatDoorDisk
namespace Go.Proofs.YtobdmjoonjblpaaGreatDoor
open Go.RowKit

set_option maxRecDepth 100000 in
theorem implFlush_no (v : Value) (B : Nat) (L : List ByteArray) (Q : List (Int × ByteArray)) (hok : devOk L Q = false) (h1 : L.length ≤ 1048576) (h2 : Q.length ≤ 1048576) (hm : ∀ s ∈ L, s.size ≤ 9223372036854775807) (w : World) (hB : B ≤ w.heap.size) (hv : DevAt w v B L Q) :
    Calls Tryz.prog 46 #[v] w fun e w' => DevPost w [] [] false e w' := by
  have OK := hide (fun w1 (hb : Below w.heap.size w w1) => implDev_any v B L Q h1 h2 hm w1 (by have := hb.size; omega) (hv.below hb hB))
  rw [hok] at OK
  obtain ⟨a, n, c, a', n', c', rfl, hL, hQ⟩ := hv
  clear hL hQ hm h1 h2
  go_enter Tryz.func46, Tryz.ntmps46
  go_wp2_with fail
  obtain ⟨W2, hW2⟩ : ∃ W, W = (w.alloc (Obj.cells #[Value.slice a n c, Value.slice a' n' c'] 25)).alloc (Obj.cells #[Value.slice none 0 0, Value.slice none 0 0] 25) := ⟨_, rfl⟩
  rw [← hW2]
  have hb2 : Below w.heap.size w W2 := by rw [hW2]; exact ((Below.refl _ _).alloc (Nat.le_refl _) _).alloc (by simp) _
  have hr2 : Box W2 (w.heap.size + 1) (Value.slice none 0 0) (Value.slice none 0 0) := by
    have h := Box.new (w.alloc (Obj.cells #[Value.slice a n c, Value.slice a' n' c'] 25)) (Value.slice none 0 0) (Value.slice none 0 0)
    rw [hW2]
    simpa using h
  clear hW2
  refine (unhide OK W2 hb2).mono ?_
  rintro e w3 ⟨rfl, hb3⟩
  have hr := hr2.below hb3
  have HR := hide hr
  have hcw : Below w.heap.size w w3 := hb2.trans (hb3.mono hb2.size)
  obtain ⟨q0, q1⟩ := hr.cells
  have f0 := hr.froz 0
  have f1 := hr.froz 1
  clear hr hb3 hr2 hb2
  go_wp2
  (try simp only [Exit.inBlock, Exit.then])
  refine bodyPost_ret (results_box Tryz.results46 _ _ (w.heap.size + 1) _ _ rfl ((unhide HR).two _ _)) rfl ?_
  exact ⟨⟨_, rfl, devNil _ _⟩, (hcw.setCell (p := ⟨w.heap.size + 1, 0, none⟩) (by simp) _).setCell (p := ⟨w.heap.size + 1, 1, none⟩) (by simp) _⟩

theorem flushL_size {L : List ByteArray} {Q : List (Int × ByteArray)} (hL : ∀ s ∈ L, s.size ≤ 64) (hQ : ∀ q ∈ Q, q.2.size ≤ 64) : ∀ s ∈ flushL L Q, s.size ≤ 64 := by
  unfold flushL
  induction Q generalizing L with
  | nil => exact hL
  | cons q Q ih =>
    simp only [List.foldl_cons]
    refine ih (fun s hs => ?_) (fun r hr => hQ r (List.mem_cons_of_mem _ hr))
    rcases List.mem_or_eq_of_mem_set hs with h | h
    · exact hL s h
    · rw [h]; exact hQ q List.mem_cons_self

set_option maxRecDepth 100000 in
set_option maxHeartbeats 1000000 in
theorem implFlush_yes (v : Value) (B : Nat) (L : List ByteArray) (Q : List (Int × ByteArray)) (hok : devOk L Q = true) (w : World) (hB : B ≤ w.heap.size) (hv : DevAt w v B L Q) :
    Calls Tryz.prog 46 #[v] w fun e w' => DevPost w (flushL L Q) [] true e w' := by
  have hds := devOk_sec hok
  have OK := hide (fun w1 (hb : Below w.heap.size w w1) => implDev_any v B L Q (by omega) (by omega) (fun s hs => by have := hds.2.2.2.1 s hs; omega) w1 (by have := hb.size; omega) (hv.below hb hB))
  rw [hok] at OK
  obtain ⟨a, n, c, a', n', c', rfl, hL, hQ⟩ := hv
  have e1 := hL.1
  have DO := hide (fun w1 (hb : Below w.heap.size w w1) => diskOf_any a n c B L (by omega) w1 (by have := hb.size; omega) (hL.below hb hB))
  obtain ⟨e2, hQc⟩ := hQ
  have hn4 : n ≤ 400 := by omega
  have hn4' : n' ≤ 400 := by omega
  have HFS := hide (flushL_size (Q := Q) hds.2.2.2.1 (fun q hq => (hds.2.2.2.2 q hq).2.2))
  have HQ0 := hide hds.2.2.2.2
  have HQC := hide hQc
  have HN := hide e1
  have HN' := hide e2
  clear hds hok hQc hL e1 e2
  go_enter Tryz.func46, Tryz.ntmps46
  go_wp2_with fail
  obtain ⟨W2, hW2⟩ : ∃ W, W = (w.alloc (Obj.cells #[Value.slice a n c, Value.slice a' n' c'] 25)).alloc (Obj.cells #[Value.slice none 0 0, Value.slice none 0 0] 25) := ⟨_, rfl⟩
  rw [← hW2]
  have hb2 : Below w.heap.size w W2 := by rw [hW2]; exact ((Below.refl _ _).alloc (Nat.le_refl _) _).alloc (by simp) _
  have hs2 : W2.heap.size = w.heap.size + 2 := by rw [hW2]; simp
  have hx2 : Box W2 w.heap.size (Value.slice a n c) (Value.slice a' n' c') := by rw [hW2]; exact (Box.new _ _ _).below (below_new _ _)
  have hr2 : Box W2 (w.heap.size + 1) (Value.slice none 0 0) (Value.slice none 0 0) := by
    have h := Box.new (w.alloc (Obj.cells #[Value.slice a n c, Value.slice a' n' c'] 25)) (Value.slice none 0 0) (Value.slice none 0 0)
    rw [hW2]
    simpa using h
  clear hW2
  refine (unhide OK W2 hb2).mono ?_
  rintro e w3 ⟨rfl, hb3⟩
  have hx3 := hx2.below hb3
  have hr3 := hr2.below hb3
  have hc3 : Below w.heap.size w w3 := hb2.trans (hb3.mono hb2.size)
  have hs3 := hb3.size
  obtain ⟨p0, p1⟩ := hx3.cells
  have HX3 := hide hx3
  have HR3 := hide hr3
  clear hb3 hx2 hr2 hb2 hx3 hr3
  go_wp2_with fail
  refine (unhide DO w3 hc3).mono ?_
  rintro e w4 ⟨rfl, hd4, hb4⟩
  have HX4 := hide ((unhide HX3).below hb4)
  have HR4 := hide ((unhide HR3).below hb4)
  have HD4 := hide hd4
  have hdz := hd4.size
  have hc4 : Below w.heap.size w w4 := hc3.trans (hb4.mono hc3.size)
  have hs4 := hb4.size
  obtain ⟨p0, p1⟩ := (unhide HX4).cells
  obtain ⟨m, hm⟩ : ∃ m, m = w3.heap.size := ⟨_, rfl⟩
  rw [← hm] at HD4 hdz hs3 ⊢
  clear hd4 hb4 HX3 HR3 hm
  go_wp2_with fail
  go_loopw [17] (fun a17 wr => ∃ j : Nat, a17 = .int .i64 j ∧ j ≤ n' ∧ Disk wr m (flushL L (Q.take j)) ∧ Kept (fun g => m ≤ g) w4 wr) (fun a17 _ => n' - (intOf a17).toNat)
  case atStart => exact ⟨0, rfl, Nat.zero_le _, unhide HD4, Kept.refl _ _⟩
  case round =>
    obtain ⟨j, rfl, hj, hd, hkp⟩ := hrel
    have hcw : Below w.heap.size w wr := hc4.trans (hkp.below hc4.size (fun k hk => by omega))
    by_cases hlt : j < n'
    · have hjQ : j < Q.length := by have := unhide HN'; omega
      obtain ⟨b', off', rfl, hbB', hq0, hq1⟩ := unhide HQC j hjQ
      rw [← hcw.cell (p := ⟨b', off' + j * 2, none⟩) (by simp; omega)] at hq0
      rw [← hcw.cell (p := ⟨b', off' + j * 2 + 1, none⟩) (by simp; omega)] at hq1
      have hqq := unhide HQ0 _ (List.getElem_mem hjQ)
      have HF := hide (flushL_snoc L Q j hjQ)
      have hi0 : (0 : Int) ≤ (j : Int) := by omega
      have hi1 : (j : Int) < (n' : Int) := by omega
      generalize Q[j] = q at hq0 hq1 hqq HF
      obtain ⟨x, s⟩ := q
      simp only at hq0 hq1 hqq HF
      obtain ⟨k, rfl⟩ := Int.eq_ofNat_of_zero_le hqq.1
      have hkL : k < (flushL L (Q.take j)).length := by rw [flushL_length]; omega
      have hd1 := hd.below (below_new wr (Obj.cells #[Value.int .i64 (k : Int), Value.string s] 134))
      have HPT := hide (put_any m k _ s hkL (by rw [flushL_length]; have := unhide HN; omega) _ hd1)
      have hF := unhide HF
      rw [Int.toNat_natCast] at hF
      rw [← hF] at HPT
      have HKP := hide (hkp.trans (Kept.of_below (below_new wr (Obj.cells #[Value.int .i64 (k : Int), Value.string s] 134))))
      clear hd hd1 HF hF hqq hkp hkL p0 p1
      go_wp2_with fail
      refine (unhide HPT).mono ?_
      rintro e w5 ⟨rfl, hd5, hk5⟩
      have HD5 := hide hd5
      have HK5 := hide ((unhide HKP).trans (hk5.weak (fun g hg => by omega)))
      clear hd5 hk5
      go_wp2
      go_roundw
      case rel => exact ⟨j + 1, by go_num, by omega, unhide HD5, unhide HK5⟩
      case measure => simp [intOf]; omega
    · obtain rfl : j = n' := by omega
      have hr := (unhide HR4).kept hkp (by omega)
      have HR := hide hr
      rw [List.take_of_length_le (by have := unhide HN'; omega)] at hd
      have HDV := hide (device_any m (flushL L Q) (by rw [flushL_length]; have := unhide HN; omega) (fun s hs => by have := unhide HFS s hs; omega) wr hd)
      clear hr hkp hd p0 p1
      go_wp2_with fail
      refine (unhide HDV).mono ?_
      rintro e w6 ⟨⟨d, rfl, ho6⟩, hb6⟩
      have HO6 := hide ho6
      obtain ⟨a6, n6, c6, a7, n7, c7, rfl, _, _⟩ := ho6.at
      have hr := (unhide HR).below hb6
      have HR6 := hide hr
      obtain ⟨q0, q1⟩ := hr.cells
      have f0 := hr.froz 0
      have f1 := hr.froz 1
      have hle := hcw.size
      have hrl := (unhide HR).lt
      have hc6 : Below w.heap.size w w6 := hcw.trans (hb6.mono hcw.size)
      clear hr hb6 ho6
      go_wp2
      (try simp only [Exit.inBlock, Exit.then])
      refine bodyPost_ret (results_box Tryz.results46 _ _ (w.heap.size + 1) _ _ rfl ((unhide HR6).two _ _)) rfl ?_
      refine ⟨⟨_, rfl, ?_⟩, (hc6.setCell (p := ⟨w.heap.size + 1, 0, none⟩) (by simp) _).setCell (p := ⟨w.heap.size + 1, 1, none⟩) (by simp) _⟩
      exact ((unhide HO6).set_far (by omega) 0 _).set_far (by omega) 1 _ |>.lower hle

theorem implFlush_any (v : Value) (B : Nat) (L : List ByteArray) (Q : List (Int × ByteArray)) (h1 : L.length ≤ 1048576) (h2 : Q.length ≤ 1048576) (hm : ∀ s ∈ L, s.size ≤ 9223372036854775807) (w : World) (hB : B ≤ w.heap.size) (hv : DevAt w v B L Q) :
    Calls Tryz.prog 46 #[v] w fun e w' => DevPost w (flushA L Q) [] (devOk L Q) e w' := by
  unfold flushA
  cases hok : devOk L Q
  · exact implFlush_no v B L Q hok h1 h2 hm w hB hv
  · exact implFlush_yes v B L Q hok w hB hv

theorem flushA_length (L : List ByteArray) (Q : List (Int × ByteArray)) : (flushA L Q).length ≤ L.length := by
  unfold flushA
  split
  · rw [flushL_length]; exact Nat.le_refl _
  · simp
end Go.Proofs.YtobdmjoonjblpaaGreatDoor
