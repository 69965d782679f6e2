/-
  Texts of this claim, one behind the other: GrPut2, GrPut3.
-/
import Derived.Test.YtldbanpfhlmjmaaJ27
import Derived.Test.YtldbanpfhlmjmaaJ29

/-
  The contracts of the writer's putGraph and putPairs.
-/
namespace Go.Proofs.Ytldbanpfhlmjmaa
namespace Gr
open Go.RowKit

theorem drop_more {α : Type} (l : List α) (k : Nat) (h : k < l.length) : l.drop k = l[k] :: l.drop (k + 1) := by
  exact List.drop_eq_getElem_cons h

set_option maxRecDepth 100000 in
set_option maxHeartbeats 2000000 in
theorem putGraph_any (B b C : Nat) (t : ByteArray) (v : Value) (s : Int) (Q : List EdgeI) (hs : 0 ≤ s ∧ s ≤ 1000000000) (hQ : ∀ e ∈ Q, small e.A ∧ small e.B ∧ small e.W1 ∧ small e.W2 ∧ small e.W3) (hn : Q.length ≤ 1048576) (ht : t.size ≤ 100000000) (w : World) (hW : Wri w B b t) (hBw : B ≤ w.heap.size) (hC : C ≤ B) (hv : GrAt w v C s Q) :
    Calls Try.prog 24 #[.pointer (some ⟨b, 0, none⟩), v] w fun e w' => e = .returned (.tuple #[]) ∧ Wri w' B b (edgesB ((t ++ vB s) ++ vB (Q.length : Int)) Q) ∧ Below B w w' ∧ Lib.OthersKept 5 (some b) w w' := by
  obtain ⟨a, n, c, rfl, hE⟩ := hv
  have HN := hide hE.1
  have HCE := hide hE.2
  have hnn : n ≤ 1048576 := by have := hE.1; omega
  have hN : (Q.length : Int) = (n : Int) := by have := hE.1; omega
  rw [hN]
  have hblt := hW.lt
  have P1 := hide (fun w1 (hb1 : Below w.heap.size w w1) a' (hr : RowW w1 B b a' 2 [s, (n : Int)]) => put_any B b t a' 2 2 [s, (n : Int)] (by simp; omega) (by omega) w1 (hW.below hb1) (Nat.le_trans hBw hb1.size) hr)
  have e1 : intsB t [s, (n : Int)] = (t ++ vB s) ++ vB (n : Int) := rfl
  rw [e1] at P1
  obtain ⟨S0, hS0⟩ : ∃ x, x = (t ++ vB s) ++ vB (n : Int) := ⟨_, rfl⟩
  have hz0 : S0.size ≤ 100000010 := by
    have h1 := vB_size s
    have h2 := vB_size (n : Int)
    rw [hS0, ByteArray.size_append, ByteArray.size_append]; omega
  rw [← hS0] at P1 ⊢
  clear e1 hS0 hE hW hN
  obtain ⟨T1, hT1⟩ : ∃ x, x = edgesB S0 Q := ⟨_, rfl⟩
  rw [← hT1]
  have H1 : Hid (T1 = edgesB S0 (Q.drop 0)) := hT1
  have HS1 : Hid (∀ S j (h : j < Q.length), edgesB S (Q.drop j) = edgesB (intsB S [Q[j].A, Q[j].B, Q[j].W1, Q[j].W2, Q[j].W3]) (Q.drop (j + 1))) := fun S j h => by rw [drop_more Q j h]; rfl
  clear hT1
  go_enter Try.func24, Try.ntmps24
  go_wp2_with fail
  obtain ⟨V, hV⟩ : ∃ W, W = w.alloc (Obj.cells #[Value.int .i64 s, Value.slice a n c] 37) := ⟨_, rfl⟩
  have bV : Below w.heap.size w V := by rw [hV]; exact below_new _ _
  have mV : Blk V w.heap.size #[Value.int .i64 s, Value.slice a n c] 37 := by rw [hV]; exact Blk.new0
  have zV : V.heap.size = w.heap.size + 1 := by rw [hV, alloc_size]
  obtain ⟨V1, hV1⟩ : ∃ W, W = V.alloc (Obj.cells #[Value.int .i64 s, Value.int .i64 (n : Int)] 3) := ⟨_, rfl⟩
  have bV1 : Below V.heap.size V V1 := by rw [hV1]; exact below_new _ _
  have rV1 : RowW V1 B b (some ⟨V.heap.size, 0, none⟩) 2 [s, (n : Int)] := by rw [hV1]; exact RowW.new rfl (by omega)
  have mV1 := mV.below bV1
  rw [zV] at rV1
  rw [← hV, ← hV1]
  refine (unhide P1 V1 (bV.trans (bV1.mono bV.size)) _ rV1).mono ?_
  rintro e w1 ⟨rfl, h1, b1, o1⟩
  have mw1 : Blk w1 w.heap.size #[Value.int .i64 s, Value.slice a n c] 37 := others_cell o1 (by omega) mV1 (by decide)
  have hc1 : w1.cell? ⟨w.heap.size, 1, none⟩ = some (.slice a n c) := mw1.cell 1 _ rfl
  have HW1 := hide h1
  have HB1 : Below B w w1 := (bV.trans (bV1.mono bV.size)).mono hBw |>.trans b1
  have HO1 := hide (((others_below bV).trans (others_below bV1)).trans o1)
  clear h1 b1 o1 mw1 mV1 rV1 bV1 hV1 mV bV hV zV V V1 P1
  go_wp2_with fail
  go_loopw [17] (fun i wr => ∃ (j : Nat) (S : ByteArray), i = .int .i64 (j : Int) ∧ j ≤ n ∧ S.size ≤ 100000010 + 25 * j ∧ Hid (T1 = edgesB S (Q.drop j)) ∧ Hid (Wri wr B b S) ∧ Below B w wr ∧ Hid (Lib.OthersKept 5 (some b) w wr)) (fun i _ => n - (intOf i).toNat)
  case atStart => exact ⟨0, S0, rfl, Nat.zero_le _, hz0, unhide H1, unhide HW1, HB1, unhide HO1⟩
  case round =>
    obtain ⟨j, S, rfl, hj, hS, HT, hw, hb, ho⟩ := hrel
    by_cases hlt : j < n
    · have hjQ : j < Q.length := by have := unhide HN; omega
      obtain ⟨k, off, rfl, hkC, d0, d1, d2, d3, d4⟩ := unhide HCE j hjQ
      have re := hQ _ (List.getElem_mem hjQ)
      have HT2 := hide ((unhide HT).trans (unhide HS1 S j hjQ))
      generalize Q[j] = q at d0 d1 d2 d3 d4 re HT2
      obtain ⟨y0, y1, y2, y3, y4⟩ := q
      simp only at d0 d1 d2 d3 d4 re HT2
      obtain ⟨⟨p0, q0⟩, ⟨p1, q1⟩, ⟨p2, q2⟩, ⟨p3, q3⟩, ⟨p4, q4⟩⟩ := re
      rw [← hb.cell (p := ⟨k, off + j * 5, none⟩) (by simp; omega)] at d0
      rw [← hb.cell (p := ⟨k, off + j * 5 + 1, none⟩) (by simp; omega)] at d1
      rw [← hb.cell (p := ⟨k, off + j * 5 + 2, none⟩) (by simp; omega)] at d2
      rw [← hb.cell (p := ⟨k, off + j * 5 + 3, none⟩) (by simp; omega)] at d3
      rw [← hb.cell (p := ⟨k, off + j * 5 + 4, none⟩) (by simp; omega)] at d4
      have hBr : B ≤ wr.heap.size := Nat.le_trans hBw hb.size
      have hbl := (unhide hw).lt
      have hkl : k < wr.heap.size := by omega
      have P1 := hide (fun w1 (hb1 : Below wr.heap.size wr w1) a' (hr : RowW w1 B b a' 5 [y0, y1, y2, y3, y4]) => put_any B b S a' 5 5 [y0, y1, y2, y3, y4] (by simp; omega) (by omega) w1 ((unhide hw).below hb1) (Nat.le_trans hBr hb1.size) hr)
      have hz := intsB_size [y0, y1, y2, y3, y4] S
      generalize intsB S [y0, y1, y2, y3, y4] = S' at P1 HT2 hz
      have hz' : S'.size ≤ 100000010 + 25 * (j + 1) := by simp at hz; omega
      have hx0 : (0 : Int) ≤ (j : Int) := by omega
      have hx1 : (j : Int) < (n : Int) := by omega
      clear p0 p1 p2 p3 p4 q0 q1 q2 q3 q4 hz
      go_wp2_with fail
      obtain ⟨V, hV⟩ : ∃ W, W = wr.alloc (Obj.cells #[Value.int .i64 y0, Value.int .i64 y1, Value.int .i64 y2, Value.int .i64 y3, Value.int .i64 y4] 58) := ⟨_, rfl⟩
      have bV : Below wr.heap.size wr V := by rw [hV]; exact below_new _ _
      have zV : V.heap.size = wr.heap.size + 1 := by rw [hV, alloc_size]
      obtain ⟨V1, hV1⟩ : ∃ W, W = V.alloc (Obj.cells #[Value.int .i64 y0, Value.int .i64 y1, Value.int .i64 y2, Value.int .i64 y3, Value.int .i64 y4] 3) := ⟨_, rfl⟩
      have bV1 : Below V.heap.size V V1 := by rw [hV1]; exact below_new _ _
      have rV1 : RowW V1 B b (some ⟨V.heap.size, 0, none⟩) 5 [y0, y1, y2, y3, y4] := by rw [hV1]; exact RowW.new rfl (by omega)
      rw [zV] at rV1
      rw [← hV, ← hV1]
      have bb := bV.trans (bV1.mono bV.size)
      refine (unhide P1 V1 bb _ rV1).mono ?_
      rintro e w1 ⟨rfl, h1, b1, o1⟩
      have HW2 := hide h1
      have HB2 : Below B w w1 := hb.trans ((bb.mono hBr).trans b1)
      have HO2 := hide ((unhide ho).trans ((others_below bb).trans o1))
      clear h1 b1 o1 rV1 bV1 hV1 bV hV zV bb V V1 P1 d0 d1 d2 d3 d4
      go_wp2
      go_roundw
      case rel => exact ⟨j + 1, S', by go_num, by omega, hz', unhide HT2, unhide HW2, HB2, unhide HO2⟩
      case measure => simp [intOf]; omega
    · obtain rfl : j = n := by omega
      have hT : T1 = S := by rw [unhide HT, List.drop_of_length_le (by have := unhide HN; omega)]; rfl
      go_wp2
      go_end0
      refine ⟨rfl, ?_, hb, unhide ho⟩
      rw [hT]
      exact unhide hw

set_option maxRecDepth 100000 in
set_option maxHeartbeats 2000000 in
theorem putPairs_any (B b C : Nat) (t : ByteArray) (v : Value) (M : List CoupleI) (hQ : ∀ e ∈ M, small e.A ∧ small e.B) (hn : M.length ≤ 1048576) (ht : t.size ≤ 200000000) (w : World) (hW : Wri w B b t) (hBw : B ≤ w.heap.size) (hC : C ≤ B) (hv : CoAt w v C M) :
    Calls Try.prog 25 #[.pointer (some ⟨b, 0, none⟩), v] w fun e w' => e = .returned (.tuple #[]) ∧ Wri w' B b (couplesB (t ++ vB (M.length : Int)) M) ∧ Below B w w' ∧ Lib.OthersKept 5 (some b) w w' := by
  obtain ⟨a, c, rfl, hE⟩ := hv
  have HCE := hide hE.2
  obtain ⟨n, hN⟩ : ∃ n, n = M.length := ⟨_, rfl⟩
  rw [← hN] at hn ⊢
  have HN := hide hN
  have hblt := hW.lt
  have P1 := hide (fun w1 (hb1 : Below w.heap.size w w1) a' (hr : RowW w1 B b a' 1 [(n : Int)]) => put_any B b t a' 1 1 [(n : Int)] (by simp; omega) (by omega) w1 (hW.below hb1) (Nat.le_trans hBw hb1.size) hr)
  have e1 : intsB t [(n : Int)] = t ++ vB (n : Int) := rfl
  rw [e1] at P1
  obtain ⟨S0, hS0⟩ : ∃ x, x = t ++ vB (n : Int) := ⟨_, rfl⟩
  have hz0 : S0.size ≤ 200000010 := by
    have h2 := vB_size (n : Int)
    rw [hS0, ByteArray.size_append]; omega
  rw [← hS0] at P1 ⊢
  clear e1 hS0 hE hW hN
  obtain ⟨T1, hT1⟩ : ∃ x, x = couplesB S0 M := ⟨_, rfl⟩
  rw [← hT1]
  have H1 : Hid (T1 = couplesB S0 (M.drop 0)) := hT1
  have HS1 : Hid (∀ S j (h : j < M.length), couplesB S (M.drop j) = couplesB (intsB S [M[j].A, M[j].B]) (M.drop (j + 1))) := fun S j h => by rw [drop_more M j h]; rfl
  clear hT1
  go_enter Try.func25, Try.ntmps25
  go_wp2_with fail
  obtain ⟨V1, hV1⟩ : ∃ W, W = w.alloc (Obj.cells #[Value.int .i64 (n : Int)] 3) := ⟨_, rfl⟩
  have bV1 : Below w.heap.size w V1 := by rw [hV1]; exact below_new _ _
  have rV1 : RowW V1 B b (some ⟨w.heap.size, 0, none⟩) 1 [(n : Int)] := by rw [hV1]; exact RowW.new rfl (by omega)
  rw [← hV1]
  refine (unhide P1 V1 bV1 _ rV1).mono ?_
  rintro e w1 ⟨rfl, h1, b1, o1⟩
  have HW1 := hide h1
  have HB1 : Below B w w1 := (bV1.mono hBw).trans b1
  have HO1 := hide ((others_below bV1).trans o1)
  clear h1 b1 o1 rV1 bV1 hV1 V1 P1
  go_wp2_with fail
  go_loopw [13] (fun i wr => ∃ (j : Nat) (S : ByteArray), i = .int .i64 (j : Int) ∧ j ≤ n ∧ S.size ≤ 200000010 + 10 * j ∧ Hid (T1 = couplesB S (M.drop j)) ∧ Hid (Wri wr B b S) ∧ Below B w wr ∧ Hid (Lib.OthersKept 5 (some b) w wr)) (fun i _ => n - (intOf i).toNat)
  case atStart => exact ⟨0, S0, rfl, Nat.zero_le _, hz0, unhide H1, unhide HW1, HB1, unhide HO1⟩
  case round =>
    obtain ⟨j, S, rfl, hj, hS, HT, hw, hb, ho⟩ := hrel
    by_cases hlt : j < n
    · have hjQ : j < M.length := by have := unhide HN; omega
      obtain ⟨k, off, rfl, hkC, d0, d1⟩ := unhide HCE j hjQ
      have re := hQ _ (List.getElem_mem hjQ)
      have HT2 := hide ((unhide HT).trans (unhide HS1 S j hjQ))
      generalize M[j] = q at d0 d1 re HT2
      obtain ⟨y0, y1⟩ := q
      simp only at d0 d1 re HT2
      obtain ⟨⟨p0, q0⟩, ⟨p1, q1⟩⟩ := re
      rw [← hb.cell (p := ⟨k, off + j * 2, none⟩) (by simp; omega)] at d0
      rw [← hb.cell (p := ⟨k, off + j * 2 + 1, none⟩) (by simp; omega)] at d1
      have hBr : B ≤ wr.heap.size := Nat.le_trans hBw hb.size
      have hbl := (unhide hw).lt
      have hkl : k < wr.heap.size := by omega
      have P1 := hide (fun w1 (hb1 : Below wr.heap.size wr w1) a' (hr : RowW w1 B b a' 2 [y0, y1]) => put_any B b S a' 2 2 [y0, y1] (by simp; omega) (by omega) w1 ((unhide hw).below hb1) (Nat.le_trans hBr hb1.size) hr)
      have hz := intsB_size [y0, y1] S
      generalize intsB S [y0, y1] = S' at P1 HT2 hz
      have hz' : S'.size ≤ 200000010 + 10 * (j + 1) := by simp at hz; omega
      have hx0 : (0 : Int) ≤ (j : Int) := by omega
      have hx1 : (j : Int) < (n : Int) := by omega
      clear p0 p1 q0 q1 hz
      go_wp2_with fail
      obtain ⟨V, hV⟩ : ∃ W, W = wr.alloc (Obj.cells #[Value.int .i64 y0, Value.int .i64 y1] 60) := ⟨_, rfl⟩
      have bV : Below wr.heap.size wr V := by rw [hV]; exact below_new _ _
      have zV : V.heap.size = wr.heap.size + 1 := by rw [hV, alloc_size]
      obtain ⟨V1, hV1⟩ : ∃ W, W = V.alloc (Obj.cells #[Value.int .i64 y0, Value.int .i64 y1] 3) := ⟨_, rfl⟩
      have bV1 : Below V.heap.size V V1 := by rw [hV1]; exact below_new _ _
      have rV1 : RowW V1 B b (some ⟨V.heap.size, 0, none⟩) 2 [y0, y1] := by rw [hV1]; exact RowW.new rfl (by omega)
      rw [zV] at rV1
      rw [← hV, ← hV1]
      have bb := bV.trans (bV1.mono bV.size)
      refine (unhide P1 V1 bb _ rV1).mono ?_
      rintro e w1 ⟨rfl, h1, b1, o1⟩
      have HW2 := hide h1
      have HB2 : Below B w w1 := hb.trans ((bb.mono hBr).trans b1)
      have HO2 := hide ((unhide ho).trans ((others_below bb).trans o1))
      clear h1 b1 o1 rV1 bV1 hV1 bV hV zV bb V V1 P1 d0 d1
      go_wp2
      go_roundw
      case rel => exact ⟨j + 1, S', by go_num, by omega, hz', unhide HT2, unhide HW2, HB2, unhide HO2⟩
      case measure => simp [intOf]; omega
    · obtain rfl : j = n := by omega
      have hT : T1 = S := by rw [unhide HT, List.drop_of_length_le (by have := unhide HN; omega)]; rfl
      go_wp2
      go_end0
      refine ⟨rfl, ?_, hb, unhide ho⟩
      rw [hT]
      exact unhide hw

end Gr
end Go.Proofs.Ytldbanpfhlmjmaa

/-
  The contract of the writer's putProof.
-/
namespace Go.Proofs.Ytldbanpfhlmjmaa
namespace Gr
open Go.RowKit

set_option maxRecDepth 100000 in
set_option maxHeartbeats 2000000 in
theorem putProof_any (B b C : Nat) (t : ByteArray) (v : Value) (Y : List Int) (G : List GrpI) (hY : ∀ x ∈ Y, small x) (hG : ∀ q ∈ G, q.M.length ≤ 100 ∧ (∀ x ∈ q.M, small x) ∧ small q.Z) (hnY : Y.length ≤ 1048576) (hnG : G.length ≤ 1048576) (ht : t.size ≤ 300000000) (w : World) (hW : Wri w B b t) (hBw : B ≤ w.heap.size) (hC : C ≤ B) (hv : PrAt w v C Y G) :
    Calls Try.prog 26 #[.pointer (some ⟨b, 0, none⟩), v] w fun e w' => e = .returned (.tuple #[]) ∧ Wri w' B b (groupsB (intsB t Y ++ vB (G.length : Int)) G) ∧ Below B w w' ∧ Lib.OthersKept 5 (some b) w w' := by
  obtain ⟨a, n, c, a3, m, c3, rfl, hYA, hGA, _⟩ := hv
  have HN := hide hGA.1
  have HCG := hide hGA.2
  have hYn := hYA.1
  have hmm : m ≤ 1048576 := by have := hGA.1; omega
  have hM : (G.length : Int) = (m : Int) := by have := hGA.1; omega
  rw [hM]
  have hblt := hW.lt
  have hzY := intsB_size Y t
  rw [hYn] at hzY
  have P0 := hide (fun w1 (hb1 : Below w.heap.size w w1) => put_any B b t a n c Y hY (by omega) w1 (hW.below hb1) (Nat.le_trans hBw hb1.size) (RowW.of_ints (hYA.below (hb1.mono hBw) hC) hC (Nat.le_trans hBw hb1.size)))
  generalize intsB t Y = S1 at hzY P0 ⊢
  have P1 := hide (fun w1 (hW1 : Wri w1 B b S1) (hB1 : B ≤ w1.heap.size) a' (hr : RowW w1 B b a' 1 [(m : Int)]) => put_any B b S1 a' 1 1 [(m : Int)] (by simp; omega) (by omega) w1 hW1 hB1 hr)
  have e1 : intsB S1 [(m : Int)] = S1 ++ vB (m : Int) := rfl
  rw [e1] at P1
  obtain ⟨S0, hS0⟩ : ∃ x, x = S1 ++ vB (m : Int) := ⟨_, rfl⟩
  have hz0 : S0.size ≤ 310000000 := by
    have h2 := vB_size (m : Int)
    rw [hS0, ByteArray.size_append]; omega
  rw [← hS0] at P1 ⊢
  obtain ⟨T1, hT1⟩ : ∃ x, x = groupsB S0 G := ⟨_, rfl⟩
  rw [← hT1]
  have H1 : Hid (T1 = groupsB S0 (G.drop 0)) := hT1
  have HS1 : Hid (∀ S j (h : j < G.length), groupsB S (G.drop j) = groupsB (intsB (intsB (intsB S [(G[j].M.length : Int)]) G[j].M) [G[j].Z]) (G.drop (j + 1))) := fun S j h => by rw [drop_more G j h]; rfl
  clear hT1 e1 hS0 hYA hGA hM hYn hzY
  have HW0 := hide hW
  clear hW
  go_enter Try.func26, Try.ntmps26
  go_wp2_with fail
  obtain ⟨V, hV⟩ : ∃ W, W = w.alloc (Obj.cells #[Value.slice a n c, Value.slice a3 m c3] 41) := ⟨_, rfl⟩
  have bV : Below w.heap.size w V := by rw [hV]; exact below_new _ _
  have mV : Blk V w.heap.size #[Value.slice a n c, Value.slice a3 m c3] 41 := by rw [hV]; exact Blk.new0
  rw [← hV]
  clear hV
  refine (unhide P0 V bV).mono ?_
  rintro e w1 ⟨rfl, h1, b1, o1⟩
  have mw1 : Blk w1 w.heap.size #[Value.slice a n c, Value.slice a3 m c3] 41 := others_cell o1 (by omega) mV (by decide)
  have hc1 : w1.cell? ⟨w.heap.size, 1, none⟩ = some (.slice a3 m c3) := mw1.cell 1 _ rfl
  have HW1 := hide h1
  have HB1 : Below B w w1 := (bV.mono hBw).trans b1
  have HO1 := hide ((others_below bV).trans o1)
  have hblt1 := h1.lt
  clear h1 b1 o1 mV bV V P0
  go_wp2_with fail
  obtain ⟨V1, hV1⟩ : ∃ W, W = w1.alloc (Obj.cells #[Value.int .i64 (m : Int)] 3) := ⟨_, rfl⟩
  have bV1 : Below w1.heap.size w1 V1 := by rw [hV1]; exact below_new _ _
  have rV1 : RowW V1 B b (some ⟨w1.heap.size, 0, none⟩) 1 [(m : Int)] := by rw [hV1]; exact RowW.new rfl hblt1
  have mV1 := mw1.below bV1
  rw [← hV1]
  have hB1w : B ≤ w1.heap.size := Nat.le_trans hBw HB1.size
  refine (unhide P1 V1 ((unhide HW1).below bV1) (Nat.le_trans hB1w bV1.size) _ rV1).mono ?_
  rintro e w2 ⟨rfl, h2, b2, o2⟩
  have mw2 : Blk w2 w.heap.size #[Value.slice a n c, Value.slice a3 m c3] 41 := others_cell o2 (by omega) mV1 (by decide)
  have hc2 : w2.cell? ⟨w.heap.size, 1, none⟩ = some (.slice a3 m c3) := mw2.cell 1 _ rfl
  have HW2 := hide h2
  have HB2 : Below B w w2 := HB1.trans ((bV1.mono hB1w).trans b2)
  have HO2 := hide ((unhide HO1).trans ((others_below bV1).trans o2))
  clear h2 b2 o2 mw1 mw2 mV1 rV1 bV1 hV1 V1 P1 hc1 HW1 HB1 HO1
  go_wp2_with fail
  go_loopw [19] (fun i wr => ∃ (j : Nat) (S : ByteArray), i = .int .i64 (j : Int) ∧ j ≤ m ∧ S.size ≤ 310000000 + 1000 * j ∧ Hid (T1 = groupsB S (G.drop j)) ∧ Hid (Wri wr B b S) ∧ Below B w wr ∧ Hid (Lib.OthersKept 5 (some b) w wr)) (fun i _ => m - (intOf i).toNat)
  case atStart => exact ⟨0, S0, rfl, Nat.zero_le _, hz0, unhide H1, unhide HW2, HB2, unhide HO2⟩
  case round =>
    obtain ⟨j, S, rfl, hj, hS, HT, hw, hb, ho⟩ := hrel
    by_cases hlt : j < m
    · have hjG : j < G.length := by have := unhide HN; omega
      obtain ⟨k, off, a5, c5, rfl, hkC, d0, d1, hIA⟩ := unhide HCG j hjG
      have re := hG _ (List.getElem_mem hjG)
      have HT2 := hide ((unhide HT).trans (unhide HS1 S j hjG))
      generalize G[j] = q at d0 d1 hIA re HT2
      obtain ⟨K, z⟩ := q
      simp only at d0 d1 hIA re HT2
      obtain ⟨hl, hK, z0, z1⟩ := re
      rw [← hb.cell (p := ⟨k, off + j * 2, none⟩) (by simp; omega)] at d0
      rw [← hb.cell (p := ⟨k, off + j * 2 + 1, none⟩) (by simp; omega)] at d1
      have hBr : B ≤ wr.heap.size := Nat.le_trans hBw hb.size
      have hbl := (unhide hw).lt
      have hkl : k < wr.heap.size := by omega
      have hzK := intsB_size [(K.length : Int)] S
      have R1 := hide (fun w1 (hW1 : Wri w1 B b S) (hB1 : B ≤ w1.heap.size) a' (hr : RowW w1 B b a' 1 [(K.length : Int)]) => put_any B b S a' 1 1 [(K.length : Int)] (by simp; omega) (by omega) w1 hW1 hB1 hr)
      generalize intsB S [(K.length : Int)] = S3 at R1 HT2 hzK
      simp at hzK
      have hzK2 := intsB_size K S3
      have hIB := hIA.below hb hC
      have R2 := hide (fun w1 (hb1 : Below B wr w1) (hW1 : Wri w1 B b S3) (hB1 : B ≤ w1.heap.size) => put_any B b S3 a5 K.length c5 K hK (by omega) w1 hW1 hB1 (RowW.of_ints (hIB.below hb1 hC) hC hB1))
      generalize intsB S3 K = S4 at R2 HT2 hzK2
      have R3 := hide (fun w1 (hW1 : Wri w1 B b S4) (hB1 : B ≤ w1.heap.size) a' (hr : RowW w1 B b a' 1 [z]) => put_any B b S4 a' 1 1 [z] (by simp; exact ⟨z0, z1⟩) (by omega) w1 hW1 hB1 hr)
      have hzZ := intsB_size [z] S4
      generalize intsB S4 [z] = S5 at R3 HT2 hzZ
      simp at hzZ
      have hz' : S5.size ≤ 310000000 + 1000 * (j + 1) := by omega
      have hx0 : (0 : Int) ≤ (j : Int) := by omega
      have hx1 : (j : Int) < (m : Int) := by omega
      obtain ⟨kn, hkn⟩ : ∃ kn, kn = K.length := ⟨_, rfl⟩
      rw [← hkn] at R1 R2 d0
      clear z0 z1 hzK hzK2 hzZ hIB hIA hK hl hkn
      go_wp2_with fail
      obtain ⟨V, hV⟩ : ∃ W, W = wr.alloc (Obj.cells #[Value.slice a5 kn c5, Value.int .i64 z] 62) := ⟨_, rfl⟩
      have bV : Below wr.heap.size wr V := by rw [hV]; exact below_new _ _
      have zV : V.heap.size = wr.heap.size + 1 := by rw [hV, alloc_size]
      have mV : Blk V wr.heap.size #[Value.slice a5 kn c5, Value.int .i64 z] 62 := by rw [hV]; exact Blk.new0
      obtain ⟨V1, hV1⟩ : ∃ W, W = V.alloc (Obj.cells #[Value.int .i64 (kn : Int)] 3) := ⟨_, rfl⟩
      have bV1 : Below V.heap.size V V1 := by rw [hV1]; exact below_new _ _
      have rV1 : RowW V1 B b (some ⟨V.heap.size, 0, none⟩) 1 [(kn : Int)] := by rw [hV1]; exact RowW.new rfl (by omega)
      have mV1 := mV.below bV1
      rw [zV] at rV1
      rw [← hV, ← hV1]
      have bb := bV.trans (bV1.mono bV.size)
      refine (unhide R1 V1 ((unhide hw).below bb) (Nat.le_trans hBr bb.size) _ rV1).mono ?_
      rintro e w1 ⟨rfl, h1, b1, o1⟩
      have mw1 : Blk w1 wr.heap.size #[Value.slice a5 kn c5, Value.int .i64 z] 62 := others_cell o1 (by omega) mV1 (by decide)
      have m0 : w1.cell? ⟨wr.heap.size, 0, none⟩ = some (.slice a5 kn c5) := mw1.cell 0 _ rfl
      have BB1 : Below B wr w1 := (bb.mono hBr).trans b1
      have HO3 := hide ((others_below bb).trans o1)
      have HW3 := hide h1
      clear h1 b1 o1 rV1 bV1 hV1 bV hV zV bb mV mV1 V V1 R1 d0 d1
      go_wp2_with fail
      refine (unhide R2 w1 BB1 (unhide HW3) (Nat.le_trans hBr BB1.size)).mono ?_
      rintro e w2 ⟨rfl, h2, b2, o2⟩
      have mw2 : Blk w2 wr.heap.size #[Value.slice a5 kn c5, Value.int .i64 z] 62 := others_cell o2 (by omega) mw1 (by decide)
      have m1 : w2.cell? ⟨wr.heap.size, 1, none⟩ = some (.int .i64 z) := mw2.cell 1 _ rfl
      have BB2 : Below B wr w2 := BB1.trans b2
      have HO4 := hide ((unhide HO3).trans o2)
      have HW4 := hide h2
      have hbl2 := h2.lt
      have hB2w : B ≤ w2.heap.size := Nat.le_trans hBr BB2.size
      clear h2 b2 o2 mw1 m0 R2 HO3 HW3 BB1
      go_wp2_with fail
      obtain ⟨V1, hV1⟩ : ∃ W, W = w2.alloc (Obj.cells #[Value.int .i64 z] 3) := ⟨_, rfl⟩
      have bV1 : Below w2.heap.size w2 V1 := by rw [hV1]; exact below_new _ _
      have rV1 : RowW V1 B b (some ⟨w2.heap.size, 0, none⟩) 1 [z] := by rw [hV1]; exact RowW.new rfl hbl2
      rw [← hV1]
      refine (unhide R3 V1 ((unhide HW4).below bV1) (Nat.le_trans hB2w bV1.size) _ rV1).mono ?_
      rintro e w3 ⟨rfl, h3, b3, o3⟩
      have HW5 := hide h3
      have HB5 : Below B w w3 := hb.trans (BB2.trans ((bV1.mono hB2w).trans b3))
      have HO5 := hide ((unhide ho).trans ((unhide HO4).trans ((others_below bV1).trans o3)))
      clear h3 b3 o3 rV1 bV1 hV1 V1 R3 m1 mw2
      go_wp2
      go_roundw
      case rel => exact ⟨j + 1, S5, by go_num, by omega, hz', unhide HT2, unhide HW5, HB5, unhide HO5⟩
      case measure => simp [intOf]; omega
    · obtain rfl : j = m := by omega
      have hT : T1 = S := by rw [unhide HT, List.drop_of_length_le (by have := unhide HN; omega)]; rfl
      go_wp2
      go_end0
      refine ⟨rfl, ?_, hb, unhide ho⟩
      rw [hT]
      exact unhide hw

end Gr
end Go.Proofs.Ytldbanpfhlmjmaa
