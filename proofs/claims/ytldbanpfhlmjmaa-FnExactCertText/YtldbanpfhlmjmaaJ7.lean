/-
  Texts of this claim, one behind the other: GrRd, GrPut2, GrPut3, GrImplA, GrImplB, GrIndMath.
-/
import Derived.Test.YtldbanpfhlmjmaaJ1
import Derived.Test.YtldbanpfhlmjmaaJ6
import Derived.Test.YtldbanpfhlmjmaaJ5
import Derived.Test.YtldbanpfhlmjmaaJ3

/-
  Numbers of a text, read one behind the other; what was written is read back. Without a program.
-/
namespace Go.Proofs.Ytldbanpfhlmjmaa
namespace Gr
open Go.RowKit

/-- A reader: its place; whether a number was not there. -/
structure CS where
  p : Nat
  b : Bool

/-- A number, and the reader behind it. -/
def rd (t : ByteArray) (c : CS) : Int × CS := if c.b = true then (0, ⟨c.p, true⟩) else match readA t (c.p : Int) with | none => (0, ⟨c.p, true⟩) | some x => ((x.1 : Int), ⟨x.2, false⟩)

def rdInts (t : ByteArray) : Nat → CS → List Int × CS
  | 0, c => ([], c)
  | k + 1, c => if c.b = true then ([], c) else
    let a := rd t c
    let r := rdInts t k a.2
    (a.1 :: r.1, r.2)

theorem rd_bound (t : ByteArray) (c : CS) (hc : c.p ≤ t.size) : 0 ≤ (rd t c).1 ∧ (rd t c).1 ≤ 1000000000 ∧ (rd t c).2.p ≤ t.size := by
  unfold rd
  split
  · exact ⟨Int.le_refl _, by simp, hc⟩
  · split
    · exact ⟨Int.le_refl _, by simp, hc⟩
    · rename_i x h
      have := readA_bound (x := x.1) (e := x.2) h
      exact ⟨by simp, by simp; omega, by simp; omega⟩

/-- The bytes of a number, as a list. -/
def vL (n : Int) : List UInt8 := varB 4 n.toNat

theorem vB_list (n : Int) : (vB n).data.toList = vL n := by simp [vB, vL]

theorem app_list (a b : ByteArray) : (a ++ b).data.toList = a.data.toList ++ b.data.toList := by simp

theorem rd_back (t : ByteArray) (p r : List UInt8) (n : Int) (h0 : 0 ≤ n) (h1 : n ≤ 1000000000) (ht : t.data.toList = p ++ (vL n ++ r)) : rd t ⟨p.length, false⟩ = (n, ⟨(p ++ vL n).length, false⟩) := by
  obtain ⟨k, rfl⟩ := Int.eq_ofNat_of_zero_le h0
  have e : t = ⟨(p ++ varB 4 k ++ r).toArray⟩ := by
    apply ByteArray.ext
    rw [← Array.toList_inj, ht]
    simp [vL]
  have h := readA_var p r k (by omega)
  rw [← e] at h
  unfold rd
  rw [if_neg (by simp)]
  simp only [h]
  simp [vL]

def small (x : Int) : Prop := 0 ≤ x ∧ x ≤ 1000000000

theorem ints_back (t : ByteArray) : ∀ (Q : List Int) (p r : List UInt8), (∀ e ∈ Q, small e) → t.data.toList = p ++ (Q.flatMap vL ++ r) → rdInts t Q.length ⟨p.length, false⟩ = (Q, ⟨(p ++ Q.flatMap vL).length, false⟩)
  | [], p, r, _, _ => by simp [rdInts]
  | e :: Q, p, r, h, ht => by
    obtain ⟨a0, a1⟩ := h e (by simp)
    rw [List.flatMap_cons] at ht
    simp only [List.append_assoc] at ht
    have r1 := rd_back t p _ e a0 a1 ht
    have r6 := ints_back t Q (p ++ vL e) r (fun x hx => h x (by simp [hx])) (by rw [ht]; simp only [List.append_assoc] <;> rfl)
    rw [List.length_cons, rdInts, if_neg (by simp)]
    simp only [r1, r6]
    simp only [List.flatMap_cons, List.append_assoc]

end Gr
end Go.Proofs.Ytldbanpfhlmjmaa

/-
  The contracts of the writer's putGraph and putPairs.
-/
namespace Go.Proofs.Ytldbanpfhlmjmaa
namespace Gr
open Go.RowKit

theorem drop_more {α : Type} (l : List α) (k : Nat) (h : k < l.length) : l.drop k = l[k] :: l.drop (k + 1) := by
  exact List.drop_eq_getElem_cons h

set_option maxRecDepth 100000 in
set_option maxHeartbeats 2000000 in
theorem putGraph_any (B b C : Nat) (t : ByteArray) (v : Value) (s : Int) (Q : List EdgeI) (hs : 0 ≤ s ∧ s ≤ 1000000000) (hQ : ∀ e ∈ Q, small e.A ∧ small e.B ∧ small e.W1 ∧ small e.W2 ∧ small e.W3) (hn : Q.length ≤ 1048576) (ht : t.size ≤ 100000000) (w : World) (hW : Wri w B b t) (hBw : B ≤ w.heap.size) (hC : C ≤ B) (hv : GrAt w v C s Q) :
    Calls Try.prog 24 #[.pointer (some ⟨b, 0, none⟩), v] w fun e w' => e = .returned (.tuple #[]) ∧ Wri w' B b (edgesB ((t ++ vB s) ++ vB (Q.length : Int)) Q) ∧ Below B w w' ∧ Lib.OthersKept 5 (some b) w w' := by
  obtain ⟨a, n, c, rfl, hE⟩ := hv
  have HN := hide hE.1
  have HCE := hide hE.2
  have hnn : n ≤ 1048576 := by have := hE.1; omega
  have hN : (Q.length : Int) = (n : Int) := by have := hE.1; omega
  rw [hN]
  have hblt := hW.lt
  have P1 := hide (fun w1 (hb1 : Below w.heap.size w w1) a' (hr : RowW w1 B b a' 2 [s, (n : Int)]) => put_any B b t a' 2 2 [s, (n : Int)] (by simp; omega) (by omega) w1 (hW.below hb1) (Nat.le_trans hBw hb1.size) hr)
  have e1 : intsB t [s, (n : Int)] = (t ++ vB s) ++ vB (n : Int) := rfl
  rw [e1] at P1
  obtain ⟨S0, hS0⟩ : ∃ x, x = (t ++ vB s) ++ vB (n : Int) := ⟨_, rfl⟩
  have hz0 : S0.size ≤ 100000010 := by
    have h1 := vB_size s
    have h2 := vB_size (n : Int)
    rw [hS0, ByteArray.size_append, ByteArray.size_append]; omega
  rw [← hS0] at P1 ⊢
  clear e1 hS0 hE hW hN
  obtain ⟨T1, hT1⟩ : ∃ x, x = edgesB S0 Q := ⟨_, rfl⟩
  rw [← hT1]
  have H1 : Hid (T1 = edgesB S0 (Q.drop 0)) := hT1
  have HS1 : Hid (∀ S j (h : j < Q.length), edgesB S (Q.drop j) = edgesB (intsB S [Q[j].A, Q[j].B, Q[j].W1, Q[j].W2, Q[j].W3]) (Q.drop (j + 1))) := fun S j h => by rw [drop_more Q j h]; rfl
  clear hT1
  go_enter Try.func24, Try.ntmps24
  go_wp2_with fail
  obtain ⟨V, hV⟩ : ∃ W, W = w.alloc (Obj.cells #[Value.int .i64 s, Value.slice a n c] 37) := ⟨_, rfl⟩
  have bV : Below w.heap.size w V := by rw [hV]; exact below_new _ _
  have mV : Blk V w.heap.size #[Value.int .i64 s, Value.slice a n c] 37 := by rw [hV]; exact Blk.new0
  have zV : V.heap.size = w.heap.size + 1 := by rw [hV, alloc_size]
  obtain ⟨V1, hV1⟩ : ∃ W, W = V.alloc (Obj.cells #[Value.int .i64 s, Value.int .i64 (n : Int)] 3) := ⟨_, rfl⟩
  have bV1 : Below V.heap.size V V1 := by rw [hV1]; exact below_new _ _
  have rV1 : RowW V1 B b (some ⟨V.heap.size, 0, none⟩) 2 [s, (n : Int)] := by rw [hV1]; exact RowW.new rfl (by omega)
  have mV1 := mV.below bV1
  rw [zV] at rV1
  rw [← hV, ← hV1]
  refine (unhide P1 V1 (bV.trans (bV1.mono bV.size)) _ rV1).mono ?_
  rintro e w1 ⟨rfl, h1, b1, o1⟩
  have mw1 : Blk w1 w.heap.size #[Value.int .i64 s, Value.slice a n c] 37 := others_cell o1 (by omega) mV1 (by decide)
  have hc1 : w1.cell? ⟨w.heap.size, 1, none⟩ = some (.slice a n c) := mw1.cell 1 _ rfl
  have HW1 := hide h1
  have HB1 : Below B w w1 := (bV.trans (bV1.mono bV.size)).mono hBw |>.trans b1
  have HO1 := hide (((others_below bV).trans (others_below bV1)).trans o1)
  clear h1 b1 o1 mw1 mV1 rV1 bV1 hV1 mV bV hV zV V V1 P1
  go_wp2_with fail
  go_loopw [17] (fun i wr => ∃ (j : Nat) (S : ByteArray), i = .int .i64 (j : Int) ∧ j ≤ n ∧ S.size ≤ 100000010 + 25 * j ∧ Hid (T1 = edgesB S (Q.drop j)) ∧ Hid (Wri wr B b S) ∧ Below B w wr ∧ Hid (Lib.OthersKept 5 (some b) w wr)) (fun i _ => n - (intOf i).toNat)
  case atStart => exact ⟨0, S0, rfl, Nat.zero_le _, hz0, unhide H1, unhide HW1, HB1, unhide HO1⟩
  case round =>
    obtain ⟨j, S, rfl, hj, hS, HT, hw, hb, ho⟩ := hrel
    by_cases hlt : j < n
    · have hjQ : j < Q.length := by have := unhide HN; omega
      obtain ⟨k, off, rfl, hkC, d0, d1, d2, d3, d4⟩ := unhide HCE j hjQ
      have re := hQ _ (List.getElem_mem hjQ)
      have HT2 := hide ((unhide HT).trans (unhide HS1 S j hjQ))
      generalize Q[j] = q at d0 d1 d2 d3 d4 re HT2
      obtain ⟨y0, y1, y2, y3, y4⟩ := q
      simp only at d0 d1 d2 d3 d4 re HT2
      obtain ⟨⟨p0, q0⟩, ⟨p1, q1⟩, ⟨p2, q2⟩, ⟨p3, q3⟩, ⟨p4, q4⟩⟩ := re
      rw [← hb.cell (p := ⟨k, off + j * 5, none⟩) (by simp; omega)] at d0
      rw [← hb.cell (p := ⟨k, off + j * 5 + 1, none⟩) (by simp; omega)] at d1
      rw [← hb.cell (p := ⟨k, off + j * 5 + 2, none⟩) (by simp; omega)] at d2
      rw [← hb.cell (p := ⟨k, off + j * 5 + 3, none⟩) (by simp; omega)] at d3
      rw [← hb.cell (p := ⟨k, off + j * 5 + 4, none⟩) (by simp; omega)] at d4
      have hBr : B ≤ wr.heap.size := Nat.le_trans hBw hb.size
      have hbl := (unhide hw).lt
      have hkl : k < wr.heap.size := by omega
      have P1 := hide (fun w1 (hb1 : Below wr.heap.size wr w1) a' (hr : RowW w1 B b a' 5 [y0, y1, y2, y3, y4]) => put_any B b S a' 5 5 [y0, y1, y2, y3, y4] (by simp; omega) (by omega) w1 ((unhide hw).below hb1) (Nat.le_trans hBr hb1.size) hr)
      have hz := intsB_size [y0, y1, y2, y3, y4] S
      generalize intsB S [y0, y1, y2, y3, y4] = S' at P1 HT2 hz
      have hz' : S'.size ≤ 100000010 + 25 * (j + 1) := by simp at hz; omega
      have hx0 : (0 : Int) ≤ (j : Int) := by omega
      have hx1 : (j : Int) < (n : Int) := by omega
      clear p0 p1 p2 p3 p4 q0 q1 q2 q3 q4 hz
      go_wp2_with fail
      obtain ⟨V, hV⟩ : ∃ W, W = wr.alloc (Obj.cells #[Value.int .i64 y0, Value.int .i64 y1, Value.int .i64 y2, Value.int .i64 y3, Value.int .i64 y4] 58) := ⟨_, rfl⟩
      have bV : Below wr.heap.size wr V := by rw [hV]; exact below_new _ _
      have zV : V.heap.size = wr.heap.size + 1 := by rw [hV, alloc_size]
      obtain ⟨V1, hV1⟩ : ∃ W, W = V.alloc (Obj.cells #[Value.int .i64 y0, Value.int .i64 y1, Value.int .i64 y2, Value.int .i64 y3, Value.int .i64 y4] 3) := ⟨_, rfl⟩
      have bV1 : Below V.heap.size V V1 := by rw [hV1]; exact below_new _ _
      have rV1 : RowW V1 B b (some ⟨V.heap.size, 0, none⟩) 5 [y0, y1, y2, y3, y4] := by rw [hV1]; exact RowW.new rfl (by omega)
      rw [zV] at rV1
      rw [← hV, ← hV1]
      have bb := bV.trans (bV1.mono bV.size)
      refine (unhide P1 V1 bb _ rV1).mono ?_
      rintro e w1 ⟨rfl, h1, b1, o1⟩
      have HW2 := hide h1
      have HB2 : Below B w w1 := hb.trans ((bb.mono hBr).trans b1)
      have HO2 := hide ((unhide ho).trans ((others_below bb).trans o1))
      clear h1 b1 o1 rV1 bV1 hV1 bV hV zV bb V V1 P1 d0 d1 d2 d3 d4
      go_wp2
      go_roundw
      case rel => exact ⟨j + 1, S', by go_num, by omega, hz', unhide HT2, unhide HW2, HB2, unhide HO2⟩
      case measure => simp [intOf]; omega
    · obtain rfl : j = n := by omega
      have hT : T1 = S := by rw [unhide HT, List.drop_of_length_le (by have := unhide HN; omega)]; rfl
      go_wp2
      go_end0
      refine ⟨rfl, ?_, hb, unhide ho⟩
      rw [hT]
      exact unhide hw

set_option maxRecDepth 100000 in
set_option maxHeartbeats 2000000 in
theorem putPairs_any (B b C : Nat) (t : ByteArray) (v : Value) (M : List CoupleI) (hQ : ∀ e ∈ M, small e.A ∧ small e.B) (hn : M.length ≤ 1048576) (ht : t.size ≤ 200000000) (w : World) (hW : Wri w B b t) (hBw : B ≤ w.heap.size) (hC : C ≤ B) (hv : CoAt w v C M) :
    Calls Try.prog 25 #[.pointer (some ⟨b, 0, none⟩), v] w fun e w' => e = .returned (.tuple #[]) ∧ Wri w' B b (couplesB (t ++ vB (M.length : Int)) M) ∧ Below B w w' ∧ Lib.OthersKept 5 (some b) w w' := by
  obtain ⟨a, c, rfl, hE⟩ := hv
  have HCE := hide hE.2
  obtain ⟨n, hN⟩ : ∃ n, n = M.length := ⟨_, rfl⟩
  rw [← hN] at hn ⊢
  have HN := hide hN
  have hblt := hW.lt
  have P1 := hide (fun w1 (hb1 : Below w.heap.size w w1) a' (hr : RowW w1 B b a' 1 [(n : Int)]) => put_any B b t a' 1 1 [(n : Int)] (by simp; omega) (by omega) w1 (hW.below hb1) (Nat.le_trans hBw hb1.size) hr)
  have e1 : intsB t [(n : Int)] = t ++ vB (n : Int) := rfl
  rw [e1] at P1
  obtain ⟨S0, hS0⟩ : ∃ x, x = t ++ vB (n : Int) := ⟨_, rfl⟩
  have hz0 : S0.size ≤ 200000010 := by
    have h2 := vB_size (n : Int)
    rw [hS0, ByteArray.size_append]; omega
  rw [← hS0] at P1 ⊢
  clear e1 hS0 hE hW hN
  obtain ⟨T1, hT1⟩ : ∃ x, x = couplesB S0 M := ⟨_, rfl⟩
  rw [← hT1]
  have H1 : Hid (T1 = couplesB S0 (M.drop 0)) := hT1
  have HS1 : Hid (∀ S j (h : j < M.length), couplesB S (M.drop j) = couplesB (intsB S [M[j].A, M[j].B]) (M.drop (j + 1))) := fun S j h => by rw [drop_more M j h]; rfl
  clear hT1
  go_enter Try.func25, Try.ntmps25
  go_wp2_with fail
  obtain ⟨V1, hV1⟩ : ∃ W, W = w.alloc (Obj.cells #[Value.int .i64 (n : Int)] 3) := ⟨_, rfl⟩
  have bV1 : Below w.heap.size w V1 := by rw [hV1]; exact below_new _ _
  have rV1 : RowW V1 B b (some ⟨w.heap.size, 0, none⟩) 1 [(n : Int)] := by rw [hV1]; exact RowW.new rfl (by omega)
  rw [← hV1]
  refine (unhide P1 V1 bV1 _ rV1).mono ?_
  rintro e w1 ⟨rfl, h1, b1, o1⟩
  have HW1 := hide h1
  have HB1 : Below B w w1 := (bV1.mono hBw).trans b1
  have HO1 := hide ((others_below bV1).trans o1)
  clear h1 b1 o1 rV1 bV1 hV1 V1 P1
  go_wp2_with fail
  go_loopw [13] (fun i wr => ∃ (j : Nat) (S : ByteArray), i = .int .i64 (j : Int) ∧ j ≤ n ∧ S.size ≤ 200000010 + 10 * j ∧ Hid (T1 = couplesB S (M.drop j)) ∧ Hid (Wri wr B b S) ∧ Below B w wr ∧ Hid (Lib.OthersKept 5 (some b) w wr)) (fun i _ => n - (intOf i).toNat)
  case atStart => exact ⟨0, S0, rfl, Nat.zero_le _, hz0, unhide H1, unhide HW1, HB1, unhide HO1⟩
  case round =>
    obtain ⟨j, S, rfl, hj, hS, HT, hw, hb, ho⟩ := hrel
    by_cases hlt : j < n
    · have hjQ : j < M.length := by have := unhide HN; omega
      obtain ⟨k, off, rfl, hkC, d0, d1⟩ := unhide HCE j hjQ
      have re := hQ _ (List.getElem_mem hjQ)
      have HT2 := hide ((unhide HT).trans (unhide HS1 S j hjQ))
      generalize M[j] = q at d0 d1 re HT2
      obtain ⟨y0, y1⟩ := q
      simp only at d0 d1 re HT2
      obtain ⟨⟨p0, q0⟩, ⟨p1, q1⟩⟩ := re
      rw [← hb.cell (p := ⟨k, off + j * 2, none⟩) (by simp; omega)] at d0
      rw [← hb.cell (p := ⟨k, off + j * 2 + 1, none⟩) (by simp; omega)] at d1
      have hBr : B ≤ wr.heap.size := Nat.le_trans hBw hb.size
      have hbl := (unhide hw).lt
      have hkl : k < wr.heap.size := by omega
      have P1 := hide (fun w1 (hb1 : Below wr.heap.size wr w1) a' (hr : RowW w1 B b a' 2 [y0, y1]) => put_any B b S a' 2 2 [y0, y1] (by simp; omega) (by omega) w1 ((unhide hw).below hb1) (Nat.le_trans hBr hb1.size) hr)
      have hz := intsB_size [y0, y1] S
      generalize intsB S [y0, y1] = S' at P1 HT2 hz
      have hz' : S'.size ≤ 200000010 + 10 * (j + 1) := by simp at hz; omega
      have hx0 : (0 : Int) ≤ (j : Int) := by omega
      have hx1 : (j : Int) < (n : Int) := by omega
      clear p0 p1 q0 q1 hz
      go_wp2_with fail
      obtain ⟨V, hV⟩ : ∃ W, W = wr.alloc (Obj.cells #[Value.int .i64 y0, Value.int .i64 y1] 60) := ⟨_, rfl⟩
      have bV : Below wr.heap.size wr V := by rw [hV]; exact below_new _ _
      have zV : V.heap.size = wr.heap.size + 1 := by rw [hV, alloc_size]
      obtain ⟨V1, hV1⟩ : ∃ W, W = V.alloc (Obj.cells #[Value.int .i64 y0, Value.int .i64 y1] 3) := ⟨_, rfl⟩
      have bV1 : Below V.heap.size V V1 := by rw [hV1]; exact below_new _ _
      have rV1 : RowW V1 B b (some ⟨V.heap.size, 0, none⟩) 2 [y0, y1] := by rw [hV1]; exact RowW.new rfl (by omega)
      rw [zV] at rV1
      rw [← hV, ← hV1]
      have bb := bV.trans (bV1.mono bV.size)
      refine (unhide P1 V1 bb _ rV1).mono ?_
      rintro e w1 ⟨rfl, h1, b1, o1⟩
      have HW2 := hide h1
      have HB2 : Below B w w1 := hb.trans ((bb.mono hBr).trans b1)
      have HO2 := hide ((unhide ho).trans ((others_below bb).trans o1))
      clear h1 b1 o1 rV1 bV1 hV1 bV hV zV bb V V1 P1 d0 d1
      go_wp2
      go_roundw
      case rel => exact ⟨j + 1, S', by go_num, by omega, hz', unhide HT2, unhide HW2, HB2, unhide HO2⟩
      case measure => simp [intOf]; omega
    · obtain rfl : j = n := by omega
      have hT : T1 = S := by rw [unhide HT, List.drop_of_length_le (by have := unhide HN; omega)]; rfl
      go_wp2
      go_end0
      refine ⟨rfl, ?_, hb, unhide ho⟩
      rw [hT]
      exact unhide hw

end Gr
end Go.Proofs.Ytldbanpfhlmjmaa

/-
  The contract of the writer's putProof.
-/
namespace Go.Proofs.Ytldbanpfhlmjmaa
namespace Gr
open Go.RowKit

set_option maxRecDepth 100000 in
set_option maxHeartbeats 2000000 in
theorem putProof_any (B b C : Nat) (t : ByteArray) (v : Value) (Y : List Int) (G : List GrpI) (hY : ∀ x ∈ Y, small x) (hG : ∀ q ∈ G, q.M.length ≤ 100 ∧ (∀ x ∈ q.M, small x) ∧ small q.Z) (hnY : Y.length ≤ 1048576) (hnG : G.length ≤ 1048576) (ht : t.size ≤ 300000000) (w : World) (hW : Wri w B b t) (hBw : B ≤ w.heap.size) (hC : C ≤ B) (hv : PrAt w v C Y G) :
    Calls Try.prog 26 #[.pointer (some ⟨b, 0, none⟩), v] w fun e w' => e = .returned (.tuple #[]) ∧ Wri w' B b (groupsB (intsB t Y ++ vB (G.length : Int)) G) ∧ Below B w w' ∧ Lib.OthersKept 5 (some b) w w' := by
  obtain ⟨a, n, c, a3, m, c3, rfl, hYA, hGA, _⟩ := hv
  have HN := hide hGA.1
  have HCG := hide hGA.2
  have hYn := hYA.1
  have hmm : m ≤ 1048576 := by have := hGA.1; omega
  have hM : (G.length : Int) = (m : Int) := by have := hGA.1; omega
  rw [hM]
  have hblt := hW.lt
  have hzY := intsB_size Y t
  rw [hYn] at hzY
  have P0 := hide (fun w1 (hb1 : Below w.heap.size w w1) => put_any B b t a n c Y hY (by omega) w1 (hW.below hb1) (Nat.le_trans hBw hb1.size) (RowW.of_ints (hYA.below (hb1.mono hBw) hC) hC (Nat.le_trans hBw hb1.size)))
  generalize intsB t Y = S1 at hzY P0 ⊢
  have P1 := hide (fun w1 (hW1 : Wri w1 B b S1) (hB1 : B ≤ w1.heap.size) a' (hr : RowW w1 B b a' 1 [(m : Int)]) => put_any B b S1 a' 1 1 [(m : Int)] (by simp; omega) (by omega) w1 hW1 hB1 hr)
  have e1 : intsB S1 [(m : Int)] = S1 ++ vB (m : Int) := rfl
  rw [e1] at P1
  obtain ⟨S0, hS0⟩ : ∃ x, x = S1 ++ vB (m : Int) := ⟨_, rfl⟩
  have hz0 : S0.size ≤ 310000000 := by
    have h2 := vB_size (m : Int)
    rw [hS0, ByteArray.size_append]; omega
  rw [← hS0] at P1 ⊢
  obtain ⟨T1, hT1⟩ : ∃ x, x = groupsB S0 G := ⟨_, rfl⟩
  rw [← hT1]
  have H1 : Hid (T1 = groupsB S0 (G.drop 0)) := hT1
  have HS1 : Hid (∀ S j (h : j < G.length), groupsB S (G.drop j) = groupsB (intsB (intsB (intsB S [(G[j].M.length : Int)]) G[j].M) [G[j].Z]) (G.drop (j + 1))) := fun S j h => by rw [drop_more G j h]; rfl
  clear hT1 e1 hS0 hYA hGA hM hYn hzY
  have HW0 := hide hW
  clear hW
  go_enter Try.func26, Try.ntmps26
  go_wp2_with fail
  obtain ⟨V, hV⟩ : ∃ W, W = w.alloc (Obj.cells #[Value.slice a n c, Value.slice a3 m c3] 41) := ⟨_, rfl⟩
  have bV : Below w.heap.size w V := by rw [hV]; exact below_new _ _
  have mV : Blk V w.heap.size #[Value.slice a n c, Value.slice a3 m c3] 41 := by rw [hV]; exact Blk.new0
  rw [← hV]
  clear hV
  refine (unhide P0 V bV).mono ?_
  rintro e w1 ⟨rfl, h1, b1, o1⟩
  have mw1 : Blk w1 w.heap.size #[Value.slice a n c, Value.slice a3 m c3] 41 := others_cell o1 (by omega) mV (by decide)
  have hc1 : w1.cell? ⟨w.heap.size, 1, none⟩ = some (.slice a3 m c3) := mw1.cell 1 _ rfl
  have HW1 := hide h1
  have HB1 : Below B w w1 := (bV.mono hBw).trans b1
  have HO1 := hide ((others_below bV).trans o1)
  have hblt1 := h1.lt
  clear h1 b1 o1 mV bV V P0
  go_wp2_with fail
  obtain ⟨V1, hV1⟩ : ∃ W, W = w1.alloc (Obj.cells #[Value.int .i64 (m : Int)] 3) := ⟨_, rfl⟩
  have bV1 : Below w1.heap.size w1 V1 := by rw [hV1]; exact below_new _ _
  have rV1 : RowW V1 B b (some ⟨w1.heap.size, 0, none⟩) 1 [(m : Int)] := by rw [hV1]; exact RowW.new rfl hblt1
  have mV1 := mw1.below bV1
  rw [← hV1]
  have hB1w : B ≤ w1.heap.size := Nat.le_trans hBw HB1.size
  refine (unhide P1 V1 ((unhide HW1).below bV1) (Nat.le_trans hB1w bV1.size) _ rV1).mono ?_
  rintro e w2 ⟨rfl, h2, b2, o2⟩
  have mw2 : Blk w2 w.heap.size #[Value.slice a n c, Value.slice a3 m c3] 41 := others_cell o2 (by omega) mV1 (by decide)
  have hc2 : w2.cell? ⟨w.heap.size, 1, none⟩ = some (.slice a3 m c3) := mw2.cell 1 _ rfl
  have HW2 := hide h2
  have HB2 : Below B w w2 := HB1.trans ((bV1.mono hB1w).trans b2)
  have HO2 := hide ((unhide HO1).trans ((others_below bV1).trans o2))
  clear h2 b2 o2 mw1 mw2 mV1 rV1 bV1 hV1 V1 P1 hc1 HW1 HB1 HO1
  go_wp2_with fail
  go_loopw [19] (fun i wr => ∃ (j : Nat) (S : ByteArray), i = .int .i64 (j : Int) ∧ j ≤ m ∧ S.size ≤ 310000000 + 1000 * j ∧ Hid (T1 = groupsB S (G.drop j)) ∧ Hid (Wri wr B b S) ∧ Below B w wr ∧ Hid (Lib.OthersKept 5 (some b) w wr)) (fun i _ => m - (intOf i).toNat)
  case atStart => exact ⟨0, S0, rfl, Nat.zero_le _, hz0, unhide H1, unhide HW2, HB2, unhide HO2⟩
  case round =>
    obtain ⟨j, S, rfl, hj, hS, HT, hw, hb, ho⟩ := hrel
    by_cases hlt : j < m
    · have hjG : j < G.length := by have := unhide HN; omega
      obtain ⟨k, off, a5, c5, rfl, hkC, d0, d1, hIA⟩ := unhide HCG j hjG
      have re := hG _ (List.getElem_mem hjG)
      have HT2 := hide ((unhide HT).trans (unhide HS1 S j hjG))
      generalize G[j] = q at d0 d1 hIA re HT2
      obtain ⟨K, z⟩ := q
      simp only at d0 d1 hIA re HT2
      obtain ⟨hl, hK, z0, z1⟩ := re
      rw [← hb.cell (p := ⟨k, off + j * 2, none⟩) (by simp; omega)] at d0
      rw [← hb.cell (p := ⟨k, off + j * 2 + 1, none⟩) (by simp; omega)] at d1
      have hBr : B ≤ wr.heap.size := Nat.le_trans hBw hb.size
      have hbl := (unhide hw).lt
      have hkl : k < wr.heap.size := by omega
      have hzK := intsB_size [(K.length : Int)] S
      have R1 := hide (fun w1 (hW1 : Wri w1 B b S) (hB1 : B ≤ w1.heap.size) a' (hr : RowW w1 B b a' 1 [(K.length : Int)]) => put_any B b S a' 1 1 [(K.length : Int)] (by simp; omega) (by omega) w1 hW1 hB1 hr)
      generalize intsB S [(K.length : Int)] = S3 at R1 HT2 hzK
      simp at hzK
      have hzK2 := intsB_size K S3
      have hIB := hIA.below hb hC
      have R2 := hide (fun w1 (hb1 : Below B wr w1) (hW1 : Wri w1 B b S3) (hB1 : B ≤ w1.heap.size) => put_any B b S3 a5 K.length c5 K hK (by omega) w1 hW1 hB1 (RowW.of_ints (hIB.below hb1 hC) hC hB1))
      generalize intsB S3 K = S4 at R2 HT2 hzK2
      have R3 := hide (fun w1 (hW1 : Wri w1 B b S4) (hB1 : B ≤ w1.heap.size) a' (hr : RowW w1 B b a' 1 [z]) => put_any B b S4 a' 1 1 [z] (by simp; exact ⟨z0, z1⟩) (by omega) w1 hW1 hB1 hr)
      have hzZ := intsB_size [z] S4
      generalize intsB S4 [z] = S5 at R3 HT2 hzZ
      simp at hzZ
      have hz' : S5.size ≤ 310000000 + 1000 * (j + 1) := by omega
      have hx0 : (0 : Int) ≤ (j : Int) := by omega
      have hx1 : (j : Int) < (m : Int) := by omega
      obtain ⟨kn, hkn⟩ : ∃ kn, kn = K.length := ⟨_, rfl⟩
      rw [← hkn] at R1 R2 d0
      clear z0 z1 hzK hzK2 hzZ hIB hIA hK hl hkn
      go_wp2_with fail
      obtain ⟨V, hV⟩ : ∃ W, W = wr.alloc (Obj.cells #[Value.slice a5 kn c5, Value.int .i64 z] 62) := ⟨_, rfl⟩
      have bV : Below wr.heap.size wr V := by rw [hV]; exact below_new _ _
      have zV : V.heap.size = wr.heap.size + 1 := by rw [hV, alloc_size]
      have mV : Blk V wr.heap.size #[Value.slice a5 kn c5, Value.int .i64 z] 62 := by rw [hV]; exact Blk.new0
      obtain ⟨V1, hV1⟩ : ∃ W, W = V.alloc (Obj.cells #[Value.int .i64 (kn : Int)] 3) := ⟨_, rfl⟩
      have bV1 : Below V.heap.size V V1 := by rw [hV1]; exact below_new _ _
      have rV1 : RowW V1 B b (some ⟨V.heap.size, 0, none⟩) 1 [(kn : Int)] := by rw [hV1]; exact RowW.new rfl (by omega)
      have mV1 := mV.below bV1
      rw [zV] at rV1
      rw [← hV, ← hV1]
      have bb := bV.trans (bV1.mono bV.size)
      refine (unhide R1 V1 ((unhide hw).below bb) (Nat.le_trans hBr bb.size) _ rV1).mono ?_
      rintro e w1 ⟨rfl, h1, b1, o1⟩
      have mw1 : Blk w1 wr.heap.size #[Value.slice a5 kn c5, Value.int .i64 z] 62 := others_cell o1 (by omega) mV1 (by decide)
      have m0 : w1.cell? ⟨wr.heap.size, 0, none⟩ = some (.slice a5 kn c5) := mw1.cell 0 _ rfl
      have BB1 : Below B wr w1 := (bb.mono hBr).trans b1
      have HO3 := hide ((others_below bb).trans o1)
      have HW3 := hide h1
      clear h1 b1 o1 rV1 bV1 hV1 bV hV zV bb mV mV1 V V1 R1 d0 d1
      go_wp2_with fail
      refine (unhide R2 w1 BB1 (unhide HW3) (Nat.le_trans hBr BB1.size)).mono ?_
      rintro e w2 ⟨rfl, h2, b2, o2⟩
      have mw2 : Blk w2 wr.heap.size #[Value.slice a5 kn c5, Value.int .i64 z] 62 := others_cell o2 (by omega) mw1 (by decide)
      have m1 : w2.cell? ⟨wr.heap.size, 1, none⟩ = some (.int .i64 z) := mw2.cell 1 _ rfl
      have BB2 : Below B wr w2 := BB1.trans b2
      have HO4 := hide ((unhide HO3).trans o2)
      have HW4 := hide h2
      have hbl2 := h2.lt
      have hB2w : B ≤ w2.heap.size := Nat.le_trans hBr BB2.size
      clear h2 b2 o2 mw1 m0 R2 HO3 HW3 BB1
      go_wp2_with fail
      obtain ⟨V1, hV1⟩ : ∃ W, W = w2.alloc (Obj.cells #[Value.int .i64 z] 3) := ⟨_, rfl⟩
      have bV1 : Below w2.heap.size w2 V1 := by rw [hV1]; exact below_new _ _
      have rV1 : RowW V1 B b (some ⟨w2.heap.size, 0, none⟩) 1 [z] := by rw [hV1]; exact RowW.new rfl hbl2
      rw [← hV1]
      refine (unhide R3 V1 ((unhide HW4).below bV1) (Nat.le_trans hB2w bV1.size) _ rV1).mono ?_
      rintro e w3 ⟨rfl, h3, b3, o3⟩
      have HW5 := hide h3
      have HB5 : Below B w w3 := hb.trans (BB2.trans ((bV1.mono hB2w).trans b3))
      have HO5 := hide ((unhide ho).trans ((unhide HO4).trans ((others_below bV1).trans o3)))
      clear h3 b3 o3 rV1 bV1 hV1 V1 R3 m1 mw2
      go_wp2
      go_roundw
      case rel => exact ⟨j + 1, S5, by go_num, by omega, hz', unhide HT2, unhide HW5, HB5, unhide HO5⟩
      case measure => simp [intOf]; omega
    · obtain rfl : j = m := by omega
      have hT : T1 = S := by rw [unhide HT, List.drop_of_length_le (by have := unhide HN; omega)]; rfl
      go_wp2
      go_end0
      refine ⟨rfl, ?_, hb, unhide ho⟩
      rw [hT]
      exact unhide hw

end Gr
end Go.Proofs.Ytldbanpfhlmjmaa

/-
  The contracts of the program's small functions over edges: isPlace, worthsOf, noWorths, edgeOf, areWorths, isEdgeAhead, isEdgeAmong, Scalar.
-/
namespace Go.Proofs.Ytldbanpfhlmjmaa
namespace Gr
open Go.RowKit

theorem isPlace_is (x n : Int) (w : World) :
    Calls Try.prog 87 #[.int .i64 x, .int .i64 n] w fun e w' => e = .returned (.bool (decide (0 ≤ x) && decide (x < n))) ∧ w' = w := by
  go_enter Try.func87, Try.ntmps87
  go_wp2
  all_goals (go_ret; exact ⟨by simp_all <;> omega, rfl⟩)

/-- Three worths. -/
def w3 (a b c : Int) : Value := .agg #[.int .i64 a, .int .i64 b, .int .i64 c]

theorem worthsOf_any (x : EdgeI) (w : World) :
    Calls Try.prog 84 #[x.v] w fun e w' => e = .returned (w3 x.W1 x.W2 x.W3) ∧ Below w.heap.size w w' := by
  unfold EdgeI.v w3
  obtain ⟨y0, y1, y2, y3, y4⟩ := x
  simp only
  go_enter Try.func84, Try.ntmps84
  go_wp2
  go_returns
  refine ⟨rfl, ?_⟩
  exact ((below_new _ _).alloc (by simp) _)

theorem isEdgeAhead_any (x y : EdgeI) (w : World) :
    Calls Try.prog 79 #[x.v, y.v] w fun e w' => e = .returned (.bool (ahead x y)) ∧ Below w.heap.size w w' := by
  have hr : ahead x y = (decide (x.A < y.A) || (decide (x.A = y.A) && decide (x.B < y.B))) := rfl
  generalize ahead x y = r at hr ⊢
  unfold EdgeI.v
  obtain ⟨y0, y1, y2, y3, y4⟩ := x
  obtain ⟨z0, z1, z2, z3, z4⟩ := y
  simp only at hr ⊢
  by_cases t0 : y0 < z0
  · rw [decide_eq_true t0, Bool.true_or] at hr
    subst hr
    go_enter Try.func79, Try.ntmps79
    go_wp2
    go_ret
    exact ⟨rfl, ((below_new _ _).alloc (by simp) _)⟩
  · rw [decide_eq_false t0, Bool.false_or] at hr
    by_cases t1 : y0 = z0
    · subst t1
      rw [decide_eq_true (show y0 = y0 from rfl), Bool.true_and] at hr
      subst hr
      go_enter Try.func79, Try.ntmps79
      go_wp2
      go_ret
      exact ⟨rfl, ((below_new _ _).alloc (by simp) _)⟩
    · rw [decide_eq_false t1, Bool.false_and] at hr
      subst hr
      have t1' : (y0 == z0) = false := by simpa using t1
      go_enter Try.func79, Try.ntmps79
      go_wp2
      go_ret
      exact ⟨rfl, ((below_new _ _).alloc (by simp) _)⟩

/-- Whether three worths are right, from one of them on. -/
def areFrom (a b c : Int) : Nat → Bool
  | 0 => worthOk a && (worthOk b && worthOk c)
  | 1 => worthOk b && worthOk c
  | 2 => worthOk c
  | _ => true

theorem worthOk_iff (x : Int) : worthOk x = (decide (0 ≤ x) && decide (x ≤ 50)) := rfl

set_option maxRecDepth 100000 in
set_option maxHeartbeats 1000000 in
theorem areWorths_any (a b c : Int) (w : World) :
    Calls Try.prog 88 #[w3 a b c] w fun e w' => e = .returned (.bool (worthOk a && (worthOk b && worthOk c))) ∧ Below w.heap.size w w' := by
  have H0 : Hid ((worthOk a && (worthOk b && worthOk c)) = areFrom a b c 0) := rfl
  generalize (worthOk a && (worthOk b && worthOk c)) = r at H0 ⊢
  have HST : Hid (∀ k x, k < 3 → #[a, b, c][k]? = some x → areFrom a b c k = ((decide (0 ≤ x) && decide (x ≤ 50)) && areFrom a b c (k + 1))) := by
    intro k x hk hx
    rcases k with _ | _ | _ | k
    · simp at hx; subst hx; rfl
    · simp at hx; subst hx; rfl
    · simp at hx; subst hx; show worthOk c = _; rw [worthOk_iff]; simp [areFrom]
    · omega
  have HEND : Hid (areFrom a b c 3 = true) := rfl
  unfold w3
  go_enter Try.func88, Try.ntmps88
  go_wp2_with fail
  go_loopw [6] (fun i wr => ∃ j : Nat, i = .int .i64 (j : Int) ∧ j ≤ 3 ∧ Hid (r = areFrom a b c j) ∧ wr = w.alloc (Obj.cells #[Value.int .i64 a, Value.int .i64 b, Value.int .i64 c] 133)) (fun i _ => 3 - (intOf i).toNat)
  case atStart => exact ⟨0, rfl, Nat.zero_le _, unhide H0, rfl⟩
  case round =>
    obtain ⟨j, rfl, hj, HR, rfl⟩ := hrel
    by_cases hlt : j < 3
    · obtain rfl | rfl | rfl : j = 0 ∨ j = 1 ∨ j = 2 := by omega
      · have hr := (unhide HR).trans (unhide HST 0 a (by omega) rfl)
        have hix : ∀ W : World, (Instr.index 133 (.agg #[.int .i64 a, .int .i64 b, .int .i64 c]) (.int .i64 (0 : Int))).run Try.prog W = .ok (.int .i64 a) W := fun W => by kernel_rfl
        have hcast : ((0 : Nat) : Int) = 0 := rfl
        rw [hcast]
        generalize hrest : areFrom a b c (0 + 1) = rest at hr
        have HREST := hide hrest
        clear hrest HR
        by_cases t0 : 0 ≤ a
        · rw [decide_eq_true t0, Bool.true_and] at hr
          by_cases t1 : a ≤ 50
          · rw [decide_eq_true t1, Bool.true_and] at hr
            subst hr
            go_wp2
            go_roundw
            case rel => exact ⟨0 + 1, by go_num, by omega, (by show _ = _; rw [unhide HREST]), (by first | rfl | trivial)⟩
            case measure => simp [intOf]
          · rw [decide_eq_false t1, Bool.false_and] at hr
            subst hr
            go_wp2
            go_ret
            exact ⟨rfl, below_new _ _⟩
        · rw [decide_eq_false t0, Bool.false_and, Bool.false_and] at hr
          subst hr
          go_wp2
          go_ret
          exact ⟨rfl, below_new _ _⟩
      · have hr := (unhide HR).trans (unhide HST 1 b (by omega) rfl)
        have hix : ∀ W : World, (Instr.index 133 (.agg #[.int .i64 a, .int .i64 b, .int .i64 c]) (.int .i64 (1 : Int))).run Try.prog W = .ok (.int .i64 b) W := fun W => by kernel_rfl
        have hcast : ((1 : Nat) : Int) = 1 := rfl
        rw [hcast]
        generalize hrest : areFrom a b c (1 + 1) = rest at hr
        have HREST := hide hrest
        clear hrest HR
        by_cases t0 : 0 ≤ b
        · rw [decide_eq_true t0, Bool.true_and] at hr
          by_cases t1 : b ≤ 50
          · rw [decide_eq_true t1, Bool.true_and] at hr
            subst hr
            go_wp2
            go_roundw
            case rel => exact ⟨1 + 1, by go_num, by omega, (by show _ = _; rw [unhide HREST]), (by first | rfl | trivial)⟩
            case measure => simp [intOf]
          · rw [decide_eq_false t1, Bool.false_and] at hr
            subst hr
            go_wp2
            go_ret
            exact ⟨rfl, below_new _ _⟩
        · rw [decide_eq_false t0, Bool.false_and, Bool.false_and] at hr
          subst hr
          go_wp2
          go_ret
          exact ⟨rfl, below_new _ _⟩
      · have hr := (unhide HR).trans (unhide HST 2 c (by omega) rfl)
        have hix : ∀ W : World, (Instr.index 133 (.agg #[.int .i64 a, .int .i64 b, .int .i64 c]) (.int .i64 (2 : Int))).run Try.prog W = .ok (.int .i64 c) W := fun W => by kernel_rfl
        have hcast : ((2 : Nat) : Int) = 2 := rfl
        rw [hcast]
        generalize hrest : areFrom a b c (2 + 1) = rest at hr
        have HREST := hide hrest
        clear hrest HR
        by_cases t0 : 0 ≤ c
        · rw [decide_eq_true t0, Bool.true_and] at hr
          by_cases t1 : c ≤ 50
          · rw [decide_eq_true t1, Bool.true_and] at hr
            subst hr
            go_wp2
            go_roundw
            case rel => exact ⟨2 + 1, by go_num, by omega, (by show _ = _; rw [unhide HREST]), (by first | rfl | trivial)⟩
            case measure => simp [intOf]
          · rw [decide_eq_false t1, Bool.false_and] at hr
            subst hr
            go_wp2
            go_ret
            exact ⟨rfl, below_new _ _⟩
        · rw [decide_eq_false t0, Bool.false_and, Bool.false_and] at hr
          subst hr
          go_wp2
          go_ret
          exact ⟨rfl, below_new _ _⟩
    · obtain rfl : j = 3 := by omega
      have hr := (unhide HR).trans (unhide HEND)
      subst hr
      go_wp2
      go_ret
      exact ⟨rfl, below_new _ _⟩

end Gr
end Go.Proofs.Ytldbanpfhlmjmaa

/-
  The contracts of impl.isEdgeAmong, impl.Scalar and impl.GraphOk.
-/
namespace Go.Proofs.Ytldbanpfhlmjmaa
namespace Gr
open Go.RowKit

set_option maxRecDepth 100000 in
set_option maxHeartbeats 1000000 in
theorem isEdgeAmong_any (x : EdgeI) (s : Int) (w : World) :
    Calls Try.prog 78 #[x.v, .int .i64 s] w fun e w' => e = .returned (.bool (edgeOk s x)) ∧ Below w.heap.size w w' := by
  have HW := hide (fun w => worthsOf_any x w)
  have HA := hide (fun w => areWorths_any x.W1 x.W2 x.W3 w)
  have hr : edgeOk s x = (((decide (0 ≤ x.A) && decide (x.A < s)) && (decide (0 ≤ x.B) && decide (x.B < s))) && (decide (x.A < x.B) && (worthOk x.W1 && (worthOk x.W2 && worthOk x.W3)))) := by
    unfold edgeOk
    generalize (worthOk x.W1 && (worthOk x.W2 && worthOk x.W3)) = k
    by_cases h1 : 0 ≤ x.A <;> by_cases h2 : x.A < x.B <;> by_cases h3 : x.B < s <;> cases k <;> simp [h1, h2, h3] <;> omega
  generalize edgeOk s x = r at hr ⊢
  generalize (worthOk x.W1 && (worthOk x.W2 && worthOk x.W3)) = k at HA hr
  have P0 := hide (fun w => isPlace_is x.A s w)
  have P1 := hide (fun w => isPlace_is x.B s w)
  generalize (decide (0 ≤ x.A) && decide (x.A < s)) = k0 at P0 hr
  generalize (decide (0 ≤ x.B) && decide (x.B < s)) = k1 at P1 hr
  unfold EdgeI.v at HW ⊢
  obtain ⟨y0, y1, y2, y3, y4⟩ := x
  simp only at HW HA P0 P1 hr ⊢
  cases k0 with
  | false =>
    rw [Bool.false_and, Bool.false_and] at hr
    subst hr
    go_enter Try.func78, Try.ntmps78
    go_wp2_with fail
    refine (unhide P0 _).mono ?_
    rintro e wk ⟨rfl, rfl⟩
    go_wp2
    go_ret
    exact ⟨rfl, below_new _ _⟩
  | true =>
    rw [Bool.true_and] at hr
    cases k1 with
    | false =>
      rw [Bool.false_and] at hr
      subst hr
      go_enter Try.func78, Try.ntmps78
      go_wp2_with fail
      refine (unhide P0 _).mono ?_
      rintro e wk ⟨rfl, rfl⟩
      go_wp2_with fail
      refine (unhide P1 _).mono ?_
      rintro e wk ⟨rfl, rfl⟩
      go_wp2
      go_ret
      exact ⟨rfl, below_new _ _⟩
    | true =>
      rw [Bool.true_and] at hr
      by_cases t : y0 < y1
      · rw [decide_eq_true t, Bool.true_and] at hr
        subst hr
        go_enter Try.func78, Try.ntmps78
        go_wp2_with fail
        refine (unhide P0 _).mono ?_
        rintro e wk ⟨rfl, rfl⟩
        go_wp2_with fail
        refine (unhide P1 _).mono ?_
        rintro e wk ⟨rfl, rfl⟩
        go_wp2_with fail
        refine (unhide HW _).mono ?_
        rintro e w1 ⟨rfl, hb1⟩
        have b1 : Below w.heap.size w w1 := (below_new _ _).trans (hb1.mono (by simp))
        clear hb1
        go_wp2_with fail
        refine (unhide HA _).mono ?_
        rintro e w2 ⟨rfl, hb2⟩
        have b2 : Below w.heap.size w w2 := b1.trans (hb2.mono b1.size)
        clear hb2
        go_wp2
        go_ret
        exact ⟨rfl, b2⟩
      · rw [decide_eq_false t, Bool.false_and] at hr
        subst hr
        go_enter Try.func78, Try.ntmps78
        go_wp2_with fail
        refine (unhide P0 _).mono ?_
        rintro e wk ⟨rfl, rfl⟩
        go_wp2_with fail
        refine (unhide P1 _).mono ?_
        rintro e wk ⟨rfl, rfl⟩
        go_wp2
        go_ret
        exact ⟨rfl, below_new _ _⟩

set_option maxRecDepth 100000 in
theorem implScalar_any (x : EdgeI) (w : World) :
    Calls Try.prog 71 #[x.v] w fun e w' => e = .returned (.int .i64 (scal x)) ∧ Below w.heap.size w w' := by
  have HS : Hid (scal x = wrap64 (wrap64 (wrap64 (90000 * x.W1) + wrap64 (300 * x.W2)) + x.W3)) := by
    show _ = _
    unfold scal
    simp only [wrap_mod]
    omega
  have HW := hide (fun w => worthsOf_any x w)
  generalize scal x = r at HS
  unfold EdgeI.v at HW ⊢
  obtain ⟨y0, y1, y2, y3, y4⟩ := x
  simp only at HS HW ⊢
  go_enter Try.func71, Try.ntmps71
  go_wp2_with fail
  refine (unhide HW _).mono ?_
  rintro e w1 ⟨rfl, hb1⟩
  have b1 : Below w.heap.size w w1 := (below_new _ _).trans (hb1.mono (by simp))
  clear hb1
  unfold w3
  go_wp2
  go_ret
  rw [unhide HS]
  exact ⟨rfl, b1.alloc b1.size _⟩

theorem implScalar_gen (B : Nat) (v : Value) (x : EdgeI) (w : World) (_hB : B ≤ w.heap.size) (hv : EdAt w v B x) :
    Calls Try.prog 71 #[v] w fun e w' => e = .returned (.int .i64 (scal x)) ∧ Below w.heap.size w w' := by
  unfold EdAt at hv
  subst hv
  exact implScalar_any x w

set_option maxRecDepth 100000 in
set_option maxHeartbeats 4000000 in
theorem implGraph_gen (B : Nat) (v : Value) (s : Int) (Q : List EdgeI) (h1 : Q.length ≤ 1048576) (w : World) (hB : B ≤ w.heap.size) (hv : GrAt w v B s Q) :
    Calls Try.prog 64 #[v] w fun e w' => e = .returned (.bool (graphOk s Q)) ∧ Below w.heap.size w w' := by
  obtain ⟨a, n, c, rfl, hE⟩ := hv
  have hg : graphOk s Q = ((decide (0 ≤ s) && decide (s ≤ 9)) && okFrom s none Q) := rfl
  by_cases s0 : s < 0
  · rw [decide_eq_false (show ¬ 0 ≤ s by omega), Bool.false_and, Bool.false_and] at hg
    rw [hg]
    clear hE hg
    go_enter Try.func64, Try.ntmps64
    go_wp2
    go_ret
    exact ⟨rfl, below_new _ _⟩
  rw [decide_eq_true (show 0 ≤ s by omega), Bool.true_and] at hg
  by_cases s9 : 9 < s
  · rw [decide_eq_false (show ¬ s ≤ 9 by omega), Bool.false_and] at hg
    rw [hg]
    clear hE hg
    go_enter Try.func64, Try.ntmps64
    go_wp2
    go_ret
    exact ⟨rfl, below_new _ _⟩
  rw [decide_eq_true (show s ≤ 9 by omega), Bool.true_and] at hg
  obtain ⟨hL, hc⟩ := hE
  have HST := hide (fun k h => okFrom_step s Q k h)
  have HEND : Hid (okFrom s (prevE Q n) (Q.drop n) = true) := by show _ = _; rw [← hL, List.drop_length]; cases prevE Q Q.length <;> rfl
  have H0 : Hid (graphOk s Q = okFrom s (prevE Q 0) (Q.drop 0)) := hg
  have HC := hide hc
  have HL := hide hL
  generalize graphOk s Q = r at H0
  have HN : Hid (n ≤ 1048576) := by show _ ≤ _; omega
  clear hc hL hg h1
  go_enter Try.func64, Try.ntmps64
  go_wp2_with fail
  obtain ⟨V1, hV1⟩ : ∃ W, W = w.alloc (Obj.cells #[Value.int .i64 s, Value.slice a n c] 37) := ⟨_, rfl⟩
  rw [← hV1]
  have x1 : GBox V1 w.heap.size s (.slice a n c) := by rw [hV1]; exact GBox.new _ _ _
  have b1 : Below w.heap.size w V1 := by rw [hV1]; exact below_new _ _
  have z1 : V1.heap.size = w.heap.size + 1 := by rw [hV1]; simp
  clear hV1
  obtain ⟨p0, p1⟩ := x1.cells
  go_loopw [16] (fun i wr => ∃ j : Nat, i = .int .i64 (j : Int) ∧ j ≤ n ∧ Hid (r = okFrom s (prevE Q j) (Q.drop j)) ∧ Below (w.heap.size + 1) V1 wr) (fun i _ => n - (intOf i).toNat)
  case atStart => exact ⟨0, rfl, Nat.zero_le _, unhide H0, Below.refl _ _⟩
  case round =>
    obtain ⟨j, rfl, hj, HR, hb⟩ := hrel
    have hsr := hb.size
    have g0 := p0
    have g1 := p1
    rw [← hb.cell (p := ⟨w.heap.size, 0, none⟩) (by simp)] at g0
    rw [← hb.cell (p := ⟨w.heap.size, 1, none⟩) (by simp)] at g1
    have hbw : Below w.heap.size w wr := b1.trans (hb.mono (by omega))
    by_cases hlt : j < n
    · have hjL : j < Q.length := by have := unhide HL; omega
      obtain ⟨b, off, rfl, hbB, c0, c1, c2, c3, c4⟩ := unhide HC j hjL
      rw [← hbw.cell (p := ⟨b, off + j * 5, none⟩) (by simp; omega)] at c0
      rw [← hbw.cell (p := ⟨b, off + j * 5 + 1, none⟩) (by simp; omega)] at c1
      rw [← hbw.cell (p := ⟨b, off + j * 5 + 2, none⟩) (by simp; omega)] at c2
      rw [← hbw.cell (p := ⟨b, off + j * 5 + 3, none⟩) (by simp; omega)] at c3
      rw [← hbw.cell (p := ⟨b, off + j * 5 + 4, none⟩) (by simp; omega)] at c4
      have HPR : Hid (∀ q, prevE Q j = some q → 0 < j ∧ wr.cell? ⟨b, off + (j - 1) * 5, none⟩ = some (.int .i64 q.A) ∧ wr.cell? ⟨b, off + (j - 1) * 5 + 1, none⟩ = some (.int .i64 q.B) ∧ wr.cell? ⟨b, off + (j - 1) * 5 + 2, none⟩ = some (.int .i64 q.W1) ∧ wr.cell? ⟨b, off + (j - 1) * 5 + 3, none⟩ = some (.int .i64 q.W2) ∧ wr.cell? ⟨b, off + (j - 1) * 5 + 4, none⟩ = some (.int .i64 q.W3)) := fun q hq => by
        unfold prevE at hq
        split at hq
        · cases hq
        · have hj1 : j - 1 < Q.length := by omega
          obtain ⟨b', off', e', _, k0, k1, k2, k3, k4⟩ := unhide HC (j - 1) hj1
          simp at e'
          obtain ⟨rfl, rfl⟩ := e'
          rw [List.getElem?_eq_getElem hj1] at hq
          obtain rfl := Option.some.inj hq
          refine ⟨by omega, ?_, ?_, ?_, ?_, ?_⟩
          · rw [hbw.cell (p := ⟨b, off + (j - 1) * 5, none⟩) (by simp; omega)]; exact k0
          · rw [hbw.cell (p := ⟨b, off + (j - 1) * 5 + 1, none⟩) (by simp; omega)]; exact k1
          · rw [hbw.cell (p := ⟨b, off + (j - 1) * 5 + 2, none⟩) (by simp; omega)]; exact k2
          · rw [hbw.cell (p := ⟨b, off + (j - 1) * 5 + 3, none⟩) (by simp; omega)]; exact k3
          · rw [hbw.cell (p := ⟨b, off + (j - 1) * 5 + 4, none⟩) (by simp; omega)]; exact k4
      have HPZ : Hid (prevE Q j = none → j = 0) := fun h => by
        unfold prevE at h
        split at h
        · assumption
        · rw [List.getElem?_eq_getElem (show j - 1 < Q.length by omega)] at h; cases h
      have hr := (unhide HR).trans (unhide HST j hjL)
      have hwl : w.heap.size < wr.heap.size := by omega
      have hbl : b < wr.heap.size := by omega
      have hx0 : (0 : Int) ≤ (j : Int) := by omega
      have hx1 : (j : Int) < (n : Int) := by omega
      have hx2 : (n : Int) ≤ 9223372036854775807 := by have := unhide HN; omega
      generalize Q[j] = q at c0 c1 c2 c3 c4 hr
      generalize hrest : okFrom s (prevE Q (j + 1)) (Q.drop (j + 1)) = rest at hr
      have HREST := hide hrest
      clear hrest
      generalize hpe : prevE Q j = pe at hr HPR HPZ
      have HM := hide (fun w => isEdgeAmong_any q s w)
      have HAH := hide (fun p w => isEdgeAhead_any p q w)
      have HAO : Hid (∀ p, aheadOf (some p) q = ahead p q) := fun _ => rfl
      generalize edgeOk s q = kE at HM hr
      unfold EdgeI.v at HM HAH
      obtain ⟨y0, y1, y2, y3, y4⟩ := q
      simp only at c0 c1 c2 c3 c4 HM
      clear hpe HR
      go_upto_region 6 with fail
      obtain ⟨V2, hV2⟩ : ∃ W, W = wr.alloc (Obj.cells #[Value.int .i64 y0, Value.int .i64 y1, Value.int .i64 y2, Value.int .i64 y3, Value.int .i64 y4] 58) := ⟨_, rfl⟩
      rw [← hV2]
      have z2 : V2.heap.size = wr.heap.size + 1 := by rw [hV2]; simp
      have e2 : V2.heap[wr.heap.size]? = some (.cells #[Value.int .i64 y0, Value.int .i64 y1, Value.int .i64 y2, Value.int .i64 y3, Value.int .i64 y4] 58 (0, 0)) := by rw [hV2]; exact heap_alloc_new _ _
      have hn2 : Below wr.heap.size wr V2 := by rw [hV2]; exact below_new _ _
      clear hV2
      have G (d : Grown V2.heap.size V2) : Below wr.heap.size wr d.w := hn2.trans (d.below.mono (by omega))
      have k0 : ∀ d : Grown V2.heap.size V2, d.w.cell? ⟨wr.heap.size, 0, none⟩ = some (.int .i64 y0) := fun d => d.cell (by omega) (by rw [cell_of_row V2 wr.heap.size 0 _ 58 (0, 0) e2]; rfl)
      have k1 : ∀ d : Grown V2.heap.size V2, d.w.cell? ⟨wr.heap.size, 1, none⟩ = some (.int .i64 y1) := fun d => d.cell (by omega) (by rw [cell_of_row V2 wr.heap.size 1 _ 58 (0, 0) e2]; rfl)
      have k2 : ∀ d : Grown V2.heap.size V2, d.w.cell? ⟨wr.heap.size, 2, none⟩ = some (.int .i64 y2) := fun d => d.cell (by omega) (by rw [cell_of_row V2 wr.heap.size 2 _ 58 (0, 0) e2]; rfl)
      have k3 : ∀ d : Grown V2.heap.size V2, d.w.cell? ⟨wr.heap.size, 3, none⟩ = some (.int .i64 y3) := fun d => d.cell (by omega) (by rw [cell_of_row V2 wr.heap.size 3 _ 58 (0, 0) e2]; rfl)
      have k4 : ∀ d : Grown V2.heap.size V2, d.w.cell? ⟨wr.heap.size, 4, none⟩ = some (.int .i64 y4) := fun d => d.cell (by omega) (by rw [cell_of_row V2 wr.heap.size 4 _ 58 (0, 0) e2]; rfl)
      have k5 : ∀ d : Grown V2.heap.size V2, d.w.cell? ⟨w.heap.size, 0, none⟩ = some (.int .i64 s) := fun d => ((G d).cell (p := ⟨w.heap.size, 0, none⟩) hwl).trans g0
      have k6 : ∀ d : Grown V2.heap.size V2, d.w.cell? ⟨w.heap.size, 1, none⟩ = some (.slice (some ⟨b, off, none⟩) n c) := fun d => ((G d).cell (p := ⟨w.heap.size, 1, none⟩) hwl).trans g1
      have HG := hide G
      have HEN : Hid (∀ d : Grown V2.heap.size V2, Below (w.heap.size + 1) V1 d.w) := fun d => hb.trans ((G d).mono (by omega))
      have HWN : Hid (∀ d : Grown V2.heap.size V2, Below w.heap.size w d.w) := fun d => hbw.trans ((G d).mono (by omega))
      clear G e2 hn2 z2 hb hbw g0 g1 c0 c1 c2 c3 c4 p0 p1
      cases kE with
      | false =>
        rw [Bool.false_and] at hr
        subst hr
        refine wp_region_grown V2.heap.size (by kernel_rfl) (by kernel_rfl) ?_
        repeat (go_big_quiet_step (first | (go_at_call 78; exact Calls.grown (Nat.le_refl _) (unhide HM _))))
        refine wpQuiet_nil ?_
        rintro w5 ⟨d5, rfl⟩
        go_wp2
        go_ret
        exact ⟨rfl, unhide HWN d5⟩
      | true =>
        rw [Bool.true_and] at hr
        cases pe with
        | none =>
          obtain rfl := unhide HPZ rfl
          change r = rest at hr
          have hz : decide (0 < 0) = false := rfl
          refine wp_region_grown V2.heap.size (by kernel_rfl) (by kernel_rfl) ?_
          repeat (go_big_quiet_step (first | (go_at_call 78; exact Calls.grown (Nat.le_refl _) (unhide HM _))))
          refine wpQuiet_nil ?_
          rintro w5 ⟨d5, rfl⟩
          go_wp2
          go_roundw
          case rel => exact ⟨0 + 1, by go_num, by omega, (by show _ = _; rw [unhide HREST]; exact hr), unhide HEN d5⟩
          case measure => simp [intOf]; omega
        | some q =>
          obtain ⟨hj0, d0, d1, d2, d3, d4⟩ := unhide HPR q rfl
          obtain ⟨i, rfl⟩ : ∃ i, j = i + 1 := ⟨j - 1, by omega⟩
          rw [Nat.add_sub_cancel] at d0 d1 d2 d3 d4
          rw [unhide HAO] at hr
          have HA := hide (unhide HAH q)
          generalize ahead q _ = kA at HA hr
          obtain ⟨x0, x1, x2, x3, x4⟩ := q
          simp only at d0 d1 d2 d3 d4 HA
          have m0 : ∀ d : Grown V2.heap.size V2, d.w.cell? ⟨b, off + i * 5, none⟩ = some (.int .i64 x0) := fun d => ((unhide HG d).cell (p := ⟨b, off + i * 5, none⟩) hbl).trans d0
          have m1 : ∀ d : Grown V2.heap.size V2, d.w.cell? ⟨b, off + i * 5 + 1, none⟩ = some (.int .i64 x1) := fun d => ((unhide HG d).cell (p := ⟨b, off + i * 5 + 1, none⟩) hbl).trans d1
          have m2 : ∀ d : Grown V2.heap.size V2, d.w.cell? ⟨b, off + i * 5 + 2, none⟩ = some (.int .i64 x2) := fun d => ((unhide HG d).cell (p := ⟨b, off + i * 5 + 2, none⟩) hbl).trans d2
          have m3 : ∀ d : Grown V2.heap.size V2, d.w.cell? ⟨b, off + i * 5 + 3, none⟩ = some (.int .i64 x3) := fun d => ((unhide HG d).cell (p := ⟨b, off + i * 5 + 3, none⟩) hbl).trans d3
          have m4 : ∀ d : Grown V2.heap.size V2, d.w.cell? ⟨b, off + i * 5 + 4, none⟩ = some (.int .i64 x4) := fun d => ((unhide HG d).cell (p := ⟨b, off + i * 5 + 4, none⟩) hbl).trans d4
          have hj1 : (0 : Int) < (i : Int) + 1 := by omega
          have hi0 : (0 : Int) ≤ (i : Int) := by omega
          have hi1 : (i : Int) < (n : Int) := by omega
          clear d0 d1 d2 d3 d4
          cases kA with
          | false =>
            rw [Bool.false_and] at hr
            subst hr
            refine wp_region_grown V2.heap.size (by kernel_rfl) (by kernel_rfl) ?_
            repeat (go_big_quiet_step (first | (go_at_call 78; exact Calls.grown (Nat.le_refl _) (unhide HM _)) | (go_at_call 79; exact Calls.grown (Nat.le_refl _) (unhide HA _))))
            refine wpQuiet_nil ?_
            rintro w5 ⟨d5, rfl⟩
            go_wp2
            go_ret
            exact ⟨rfl, unhide HWN d5⟩
          | true =>
            rw [Bool.true_and] at hr
            refine wp_region_grown V2.heap.size (by kernel_rfl) (by kernel_rfl) ?_
            repeat (go_big_quiet_step (first | (go_at_call 78; exact Calls.grown (Nat.le_refl _) (unhide HM _)) | (go_at_call 79; exact Calls.grown (Nat.le_refl _) (unhide HA _))))
            refine wpQuiet_nil ?_
            rintro w5 ⟨d5, rfl⟩
            go_wp2
            go_roundw
            case rel => exact ⟨i + 1 + 1, by go_num, by omega, (by show _ = _; rw [unhide HREST]; exact hr), unhide HEN d5⟩
            case measure => simp [intOf]; omega
    · obtain rfl : j = n := by omega
      have hr := (unhide HR).trans (unhide HEND)
      subst hr
      go_wp2
      go_ret
      exact ⟨rfl, hbw⟩

end Gr
end Go.Proofs.Ytldbanpfhlmjmaa

/-
  What the induced graph of a right one is: right itself, with just the edges between its vertices, with their worths.
-/
namespace Go.Proofs.Ytldbanpfhlmjmaa
namespace Gr
open Go.RowKit

theorem asc_of (s : Int) : ∀ (K : List Int) (p : Option Int), K.Pairwise (· < ·) → (∀ x ∈ K, 0 ≤ x ∧ x ≤ s - 1) → (∀ q, p = some q → ∀ x ∈ K, q < x) → ascFrom s p K = true
  | [], _, _, _, _ => rfl
  | y :: r, p, h1, h2, h3 => by
    rw [List.pairwise_cons] at h1
    have hy := h2 y List.mem_cons_self
    have hr := asc_of s r (some y) h1.2 (fun x hx => h2 x (List.mem_cons_of_mem _ hx)) (fun q hq x hx => by obtain rfl := Option.some.inj hq; exact h1.1 x hx)
    unfold ascFrom
    rw [hr, decide_eq_true hy.1, decide_eq_true hy.2]
    cases p with
    | none => rfl
    | some q => simp; exact h3 q rfl y List.mem_cons_self

theorem place_mem (x : Int) : ∀ (K : List Int) (k : Nat), x ∈ K → ∃ i, K[i]? = some x ∧ placeFrom x k K = ((k + i : Nat) : Int)
  | [], _, h => by simp at h
  | y :: r, k, h => by
    unfold placeFrom
    by_cases e : (y == x) = true
    · rw [if_pos e]
      exact ⟨0, by simpa using e, rfl⟩
    · rw [if_neg e]
      have hx : x ∈ r := by
        rcases List.mem_cons.1 h with rfl | h
        · simp at e
        · exact h
      obtain ⟨i, h1, h2⟩ := place_mem x r (k + 1) hx
      exact ⟨i + 1, by simpa using h1, by rw [h2]; omega⟩

theorem place_not (x : Int) : ∀ (K : List Int) (k : Nat), x ∉ K → placeFrom x k K = -1
  | [], _, _ => rfl
  | y :: r, k, h => by
    unfold placeFrom
    rw [List.mem_cons, not_or] at h
    rw [if_neg (by simp; exact fun e => h.1 e.symm)]
    exact place_not x r (k + 1) h.2

/-- Where a number stands on a list that ascends. -/
theorem place_iff {K : List Int} (h : K.Pairwise (· < ·)) (x : Int) (i : Nat) : placeOf K x = (i : Int) ↔ K[i]? = some x := by
  constructor
  · intro e
    by_cases hx : x ∈ K
    · obtain ⟨j, h1, h2⟩ := place_mem x K 0 hx
      have : j = i := by
        unfold placeOf at e
        rw [h2] at e
        omega
      rw [← this]
      exact h1
    · unfold placeOf at e
      rw [place_not x K 0 hx] at e
      omega
  · intro e
    obtain ⟨j, h1, h2⟩ := place_mem x K 0 (List.mem_of_getElem? e)
    have : i = j := ((mono_at h e h1).2).2 rfl
    unfold placeOf
    rw [h2, this]
    omega

theorem place_nonneg {K : List Int} {x : Int} (h : 0 ≤ placeOf K x) : ∃ i : Nat, K[i]? = some x ∧ placeOf K x = (i : Int) := by
  by_cases hx : x ∈ K
  · obtain ⟨i, h1, h2⟩ := place_mem x K 0 hx
    exact ⟨i, h1, by unfold placeOf; rw [h2]; omega⟩
  · unfold placeOf at h
    rw [place_not x K 0 hx] at h
    omega

theorem indE_some {K : List Int} {e x : EdgeI} (h : indE K e = some x) : ∃ i j : Nat, K[i]? = some e.A ∧ K[j]? = some e.B ∧ x = ⟨(i : Int), (j : Int), e.W1, e.W2, e.W3⟩ := by
  unfold indE at h
  split at h
  · rename_i hp
    obtain ⟨i, hi, ei⟩ := place_nonneg hp.1
    obtain ⟨j, hj, ej⟩ := place_nonneg hp.2
    refine ⟨i, j, hi, hj, ?_⟩
    rw [ei, ej] at h
    exact (Option.some.inj h).symm
  · cases h

theorem indE_of {K : List Int} (hK : K.Pairwise (· < ·)) {e : EdgeI} {i j : Nat} (hi : K[i]? = some e.A) (hj : K[j]? = some e.B) : indE K e = some ⟨(i : Int), (j : Int), e.W1, e.W2, e.W3⟩ := by
  unfold indE
  rw [(place_iff hK e.A i).2 hi, (place_iff hK e.B j).2 hj, if_pos (by omega)]

theorem ind_ok {s : Int} {Q : List EdgeI} {K : List Int} (hg : graphOk s Q = true) (hK : K.Pairwise (· < ·)) (hl : (K.length : Int) ≤ s) : graphOk (K.length : Int) (indL K Q) = true := by
  obtain ⟨h0, h1, h2, h3⟩ := graph_sound hg
  refine graph_of (by omega) (by omega) (fun x hx => ?_) ?_
  · obtain ⟨e, he, hex⟩ := List.mem_filterMap.1 hx
    obtain ⟨i, j, hi, hj, rfl⟩ := indE_some hex
    have hee := (edgeOk_iff s e).1 (h2 e he)
    have hij := ((mono_at hK hi hj).1).2 hee.2.1
    have hjl := lt_of_at hj
    rw [edgeOk_iff]
    refine ⟨?_, ?_, ?_, hee.2.2.2⟩
    · show (0 : Int) ≤ (i : Int); omega
    · show (i : Int) < (j : Int); omega
    · show (j : Int) < (K.length : Int); omega
  · unfold indL
    rw [List.pairwise_filterMap]
    refine h3.imp (fun {p e} hpe x hx y hy => ?_)
    obtain ⟨i, j, hi, hj, rfl⟩ := indE_some hx
    obtain ⟨i', j', hi', hj', rfl⟩ := indE_some hy
    rw [ahead_iff] at hpe ⊢
    have m1 := mono_at hK hi hi'
    have m2 := mono_at hK hj hj'
    rcases hpe with h | ⟨h, h'⟩
    · left
      have := m1.1.2 h
      show (i : Int) < (i' : Int)
      omega
    · right
      have := m1.2.2 h
      have := m2.1.2 h'
      refine ⟨?_, ?_⟩
      · show (i : Int) = (i' : Int); omega
      · show (j : Int) < (j' : Int); omega

/-- What EdgeAt tells of two vertices in a graph, and of their places in the induced one. -/
theorem pair_fact {s : Int} {Q : List EdgeI} {K : List Int} (hg : graphOk s Q = true) (hK : K.Pairwise (· < ·)) (hl : (K.length : Int) ≤ s) {a b : Nat} {x y : Int} (hab : a < b) (hx : K[a]? = some x) (hy : K[b]? = some y) :
    (∃ (i j : Nat) (p e : EdgeI), Q[i]? = some p ∧ (indL K Q)[j]? = some e ∧ edgeAtV s x y Q = (i : Int) ∧ edgeAtV (K.length : Int) (b : Int) (a : Int) (indL K Q) = (j : Int) ∧ scal p = scal e ∧ e.A = (a : Int) ∧ e.B = (b : Int)) ∨
    (edgeAtV s x y Q = -1 ∧ edgeAtV (K.length : Int) (b : Int) (a : Int) (indL K Q) = -1 ∧ ∀ e ∈ indL K Q, ¬ (e.A = (a : Int) ∧ e.B = (b : Int))) := by
  obtain ⟨h0, h1, h2, h3⟩ := graph_sound hg
  have hi := ind_ok hg hK hl
  obtain ⟨_, _, i2, i3⟩ := graph_sound hi
  have hxy := ((mono_at hK hx hy).1).1 hab
  have habI : (a : Int) < (b : Int) := by omega
  unfold edgeAtV
  rw [hg, hi, if_pos rfl, if_pos rfl]
  by_cases hex : ∃ p ∈ Q, p.A = x ∧ p.B = y
  · left
    obtain ⟨p, hp, hpA, hpB⟩ := hex
    obtain ⟨i, p', q1, q2, q3⟩ := at_some x y Q 0 ⟨p, hp, ((hit_iff (h2 p hp) hxy).1).2 ⟨hpA, hpB⟩⟩
    have hp' := List.mem_of_getElem? q1
    obtain ⟨r1, r2⟩ := ((hit_iff (h2 p' hp') hxy).1).1 q2
    have hie : indE K p' = some ⟨(a : Int), (b : Int), p'.W1, p'.W2, p'.W3⟩ := indE_of hK (by rw [r1]; exact hx) (by rw [r2]; exact hy)
    have hm : (⟨(a : Int), (b : Int), p'.W1, p'.W2, p'.W3⟩ : EdgeI) ∈ indL K Q := List.mem_filterMap.2 ⟨p', hp', hie⟩
    obtain ⟨j, e, t1, t2, t3⟩ := at_some (b : Int) (a : Int) (indL K Q) 0 ⟨_, hm, ((hit_iff (i2 _ hm) habI).2).2 ⟨rfl, rfl⟩⟩
    have he := List.mem_of_getElem? t1
    obtain ⟨v1, v2⟩ := ((hit_iff (i2 e he) habI).2).1 t2
    have hee := same_edge i3 he hm v1 v2
    refine ⟨i, j, p', e, q1, t1, by rw [q3]; simp, by rw [t3]; simp, ?_, v1, v2⟩
    rw [hee]
    rfl
  · right
    have hno : ∀ e ∈ indL K Q, ¬ (e.A = (a : Int) ∧ e.B = (b : Int)) := by
      rintro e he ⟨hA, hB⟩
      obtain ⟨p, hp, hpe⟩ := List.mem_filterMap.1 he
      obtain ⟨i, j, hi', hj', rfl⟩ := indE_some hpe
      have ea : i = a := by have : (i : Int) = (a : Int) := hA; omega
      have eb : j = b := by have : (j : Int) = (b : Int) := hB; omega
      subst ea eb
      rw [hx] at hi'
      rw [hy] at hj'
      exact hex ⟨p, hp, (Option.some.inj hi').symm, (Option.some.inj hj').symm⟩
    refine ⟨at_none x y Q 0 (fun e he hh => hex ⟨e, he, ((hit_iff (h2 e he) hxy).1).1 hh⟩), at_none _ _ _ 0 (fun e he hh => hno e he (((hit_iff (i2 e he) habI).2).1 hh)), hno⟩

/-- How many edges stand ahead of (a, b). -/
def cnt (H : List EdgeI) (a b : Int) : Nat := H.countP (fun e => decide (e.A < a ∨ e.A = a ∧ e.B < b))

theorem cnt_miss {H : List EdgeI} {a b : Int} (h : ∀ e ∈ H, ¬ (e.A = a ∧ e.B = b)) : cnt H a (b + 1) = cnt H a b := by
  unfold cnt
  refine List.countP_congr (fun e he => ?_)
  have := h e he
  simp only [decide_eq_true_eq]
  omega

theorem cnt_hit : ∀ {H : List EdgeI} {a b : Int}, H.Pairwise (fun p e => ahead p e = true) → (∃ e ∈ H, e.A = a ∧ e.B = b) → cnt H a (b + 1) = cnt H a b + 1
  | [], _, _, _, h => by simp at h
  | q :: r, a, b, hp, h => by
    rw [List.pairwise_cons] at hp
    unfold cnt
    rw [List.countP_cons, List.countP_cons]
    by_cases hq : q.A = a ∧ q.B = b
    · have hm : cnt r a (b + 1) = cnt r a b := cnt_miss (fun e he hh => by have := (ahead_iff _ _).1 (hp.1 e he); omega)
      unfold cnt at hm
      rw [hm, if_pos (by simp; omega), if_neg (by simp; omega)]
    · have hr : ∃ e ∈ r, e.A = a ∧ e.B = b := by
        obtain ⟨e, he, hh⟩ := h
        rcases List.mem_cons.1 he with rfl | he
        · exact absurd hh hq
        · exact ⟨e, he, hh⟩
      have hi := cnt_hit hp.2 hr
      unfold cnt at hi
      rw [hi]
      have e1 : decide (q.A < a ∨ q.A = a ∧ q.B < b + 1) = decide (q.A < a ∨ q.A = a ∧ q.B < b) := by
        rw [decide_eq_decide]
        omega
      rw [e1]
      omega

theorem cnt_row {H : List EdgeI} {n a : Int} (h : ∀ e ∈ H, edgeOk n e = true) : cnt H a n = cnt H (a + 1) (a + 1 + 1) := by
  unfold cnt
  refine List.countP_congr (fun e he => ?_)
  have := (edgeOk_iff n e).1 (h e he)
  simp only [decide_eq_true_eq]
  omega

theorem cnt_start {H : List EdgeI} {n : Int} (h : ∀ e ∈ H, edgeOk n e = true) : cnt H 0 1 = 0 := by
  unfold cnt
  rw [List.countP_eq_zero]
  intro e he
  have := (edgeOk_iff n e).1 (h e he)
  simp only [decide_eq_true_eq]
  omega

theorem cnt_end {H : List EdgeI} {n : Int} (h : ∀ e ∈ H, edgeOk n e = true) : cnt H n (n + 1) = H.length := by
  unfold cnt
  rw [List.countP_eq_length]
  intro e he
  have := (edgeOk_iff n e).1 (h e he)
  simp only [decide_eq_true_eq]
  omega

end Gr
end Go.Proofs.Ytldbanpfhlmjmaa
