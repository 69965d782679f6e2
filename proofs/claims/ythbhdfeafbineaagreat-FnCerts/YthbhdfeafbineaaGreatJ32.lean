/-
 GrPut, GrPut2, GrPut3.
-/
import Derived.Test.YthbhdfeafbineaaGreatJ30
import Derived.Test.YthbhdfeafbineaaGreatJ16
import Derived.Test.YthbhdfeafbineaaGreatJ31
import Derived.Test.YthbhdfeafbineaaGreatJ2
namespace Go.Proofs.YthbhdfeafbineaaGreat
namespace Gr
open Go.RowKit
set_option maxRecDepth 100000 in
theorem varForm_any (x : Int) (h0 : 0 ≤ x) (h1 : x ≤ 1000000000) (w : World) :
    Calls Tryz.prog 76 #[.int .i64 x] w fun e w' => e = .returned (.string (vB x)) ∧ Below w.heap.size w w' := by
  obtain ⟨n, rfl⟩ := Int.eq_ofNat_of_zero_le h0
  have IV := hide (implVar_yes n (by omega) w)
  have e : vB (n : Int) = ⟨(varB 4 n).toArray⟩ := rfl
  rw [e]
  generalize (varB 4 n).toArray = t at IV
  clear e
  go_enter Tryz.func76, Tryz.ntmps76
  go_wp2_with fail
  refine (unhide IV).mono ?_
  rintro e w1 ⟨rfl, hb1⟩
  go_wp2
  go_ret
  exact ⟨rfl, hb1⟩
def RowW (w : World) (B b : Nat) (a : Option Addr) (len : Nat) (L : List Int) : Prop :=
  L.length = len ∧ ∀ j (h : j < L.length), ∃ k off, a = some ⟨k, off, none⟩ ∧ w.cell? ⟨k, off + j, none⟩ = some (.int .i64 L[j]) ∧ k < w.heap.size ∧ (k < B ∨ (k ≠ b ∧ ∃ C t z, w.heap[k]? = some (.cells C t z) ∧ t ≠ 5))
theorem others_cell {w w' : World} {b k : Nat} (h : Lib.OthersKept 5 (some b) w w') (hk : k ≠ b) {C : Array Value} {t : TypeId} {z : Nat × Nat} (hc : w.heap[k]? = some (.cells C t z)) (ht : t ≠ 5) : w'.heap[k]? = some (.cells C t z) :=
  h k _ hc (fun e => hk (Option.some.inj e)) (fun c fz e => ht (by simp at e; exact e.2.1))
theorem cell_same {w w' : World} {k off : Nat} (h : w'.heap[k]? = w.heap[k]?) : w'.cell? ⟨k, off, none⟩ = w.cell? ⟨k, off, none⟩ := by
  unfold World.cell?
  simp only []
  rw [h]
theorem RowW.kept {w w' : World} {B b : Nat} {a : Option Addr} {len : Nat} {L : List Int} (h : RowW w B b a len L) (hb : Below B w w') (ho : Lib.OthersKept 5 (some b) w w') : RowW w' B b a len L := by
  refine ⟨h.1, fun j hj => ?_⟩
  obtain ⟨k, off, e, hc, hlt, hk⟩ := h.2 j hj
  rcases hk with hk | ⟨hk, C, t, z, h1, h2⟩
  · exact ⟨k, off, e, (hb.cell (p := ⟨k, off + j, none⟩) hk).trans hc, Nat.lt_of_lt_of_le hlt hb.size, .inl hk⟩
  · have h3 := others_cell ho hk h1 h2
    exact ⟨k, off, e, (cell_same (h3.trans h1.symm)).trans hc, Nat.lt_of_lt_of_le hlt hb.size, .inr ⟨hk, C, t, z, h3, h2⟩⟩
theorem RowW.below {w w' : World} {B b : Nat} {a : Option Addr} {len : Nat} {L : List Int} (h : RowW w B b a len L) (hb : Below w.heap.size w w') : RowW w' B b a len L := by
  refine ⟨h.1, fun j hj => ?_⟩
  obtain ⟨k, off, e, hc, hlt, hk⟩ := h.2 j hj
  refine ⟨k, off, e, (hb.cell (p := ⟨k, off + j, none⟩) hlt).trans hc, Nat.lt_of_lt_of_le hlt hb.size, ?_⟩
  rcases hk with hk | ⟨hk, C, t, z, h1, h2⟩
  · exact .inl hk
  · exact .inr ⟨hk, C, t, z, (hb.block k hlt).trans h1, h2⟩
theorem RowW.of_ints {w : World} {B b C : Nat} {a : Option Addr} {len : Nat} {L : List Int} (h : IntsAt w a len C L) (hC : C ≤ B) (hB : B ≤ w.heap.size) : RowW w B b a len L := by
  refine ⟨h.1, fun j hj => ?_⟩
  obtain ⟨k, off, e, hk, hc⟩ := h.2 j hj
  exact ⟨k, off, e, hc, by omega, .inl (by omega)⟩
theorem RowW.new {w : World} {B b : Nat} {L : List Int} {cs : Array Value} (hcs : cs = (L.map (Value.int .i64)).toArray) (hb : b < w.heap.size) : RowW (w.alloc (.cells cs 3)) B b (some ⟨w.heap.size, 0, none⟩) L.length L := by
  refine ⟨rfl, fun j hj => ⟨w.heap.size, 0, rfl, ?_, by rw [alloc_size]; omega, .inr ⟨by omega, cs, 3, (0, 0), heap_alloc_new w _, by decide⟩⟩⟩
  have h : Blk (w.alloc (.cells cs 3)) w.heap.size cs 3 := Blk.new0
  rw [Nat.zero_add]
  exact h.cell j _ (by rw [hcs]; simp [hj])
theorem Wri.lt {w : World} {B b : Nat} {t : ByteArray} (h : Wri w B b t) : b < w.heap.size := by
  rcases h with h | h <;> exact h.lt
theorem Wri.base {w : World} {B b : Nat} {t : ByteArray} (h : Wri w B b t) : B ≤ b := by
  rcases h with h | h <;> exact h.1
theorem Wri.below {w w' : World} {B b : Nat} {t : ByteArray} (h : Wri w B b t) (hb : Below w.heap.size w w') : Wri w' B b t := by
  have key : ∀ p, Lib.BuilderAt 53 5 B b p (Lib.strCells t) w → Lib.BuilderAt 53 5 B b p (Lib.strCells t) w' := by
    intro p hp
    have hlt := hp.lt
    obtain ⟨hB, v, hbk, hown, hne⟩ := hp
    exact ⟨hB, v, (hb.block b hlt).trans hbk, own_below hown hb, hne⟩
  rcases h with h | h
  · exact .inl (key _ h)
  · exact .inr (key _ h)
theorem others_below {w w' : World} {b : Option Nat} (hb : Below w.heap.size w w') : Lib.OthersKept 5 b w w' := by
  intro k o hk _ _
  have hlt : k < w.heap.size := (Array.getElem?_eq_some_iff.1 hk).1
  exact (hb.block k hlt).trans hk
theorem intsB_take (t : ByteArray) (L : List Int) (j : Nat) (h : j < L.length) : intsB t (L.take (j + 1)) = intsB t (L.take j) ++ vB L[j] := by
  have key : ∀ (L : List Int) (t : ByteArray) (x : Int), intsB t (L ++ [x]) = intsB t L ++ vB x := by
    intro L
    induction L with
    | nil => intro t x; rfl
    | cons y r ih => intro t x; rw [List.cons_append, intsB, intsB, ih]
  rw [List.take_succ_eq_append_getElem h, key]
theorem intsB_size : ∀ (L : List Int) (t : ByteArray), (intsB t L).size ≤ t.size + 5 * L.length
  | [], t => by simp [intsB]
  | x :: r, t => by
    rw [intsB]
    have h1 := intsB_size r (t ++ vB x)
    have h2 := vB_size x
    rw [ByteArray.size_append] at h1
    rw [List.length_cons]
    omega
set_option maxRecDepth 100000 in
set_option maxHeartbeats 2000000 in
theorem put_any (B b : Nat) (t : ByteArray) (a : Option Addr) (len cap : Nat) (L : List Int) (hL : ∀ x ∈ L, 0 ≤ x ∧ x ≤ 1000000000) (ht : t.size + 5 * len ≤ 100000000000) (w : World) (hW : Wri w B b t) (hBw : B ≤ w.heap.size) (hr : RowW w B b a len L) :
    Calls Tryz.prog 46 #[.pointer (some ⟨b, 0, none⟩), .slice a len cap] w fun e w' => e = .returned (.tuple #[]) ∧ Wri w' B b (intsB t L) ∧ Below B w w' ∧ Lib.OthersKept 5 (some b) w w' := by
  have HW := hide hW
  have HR := hide hr
  have HL := hide hr.1
  clear hW hr
  go_enter Tryz.func46, Tryz.ntmps46
  go_wp2_with fail
  go_loopw [8] (fun i wr => ∃ j : Nat, i = .int .i64 j ∧ j ≤ len ∧ Hid (Wri wr B b (intsB t (L.take j))) ∧ Below B w wr ∧ Hid (Lib.OthersKept 5 (some b) w wr)) (fun i _ => len - (intOf i).toNat)
  case atStart => exact ⟨0, rfl, Nat.zero_le _, unhide HW, Below.refl _ _, Lib.OthersKept.refl _ _ _⟩
  case round =>
    obtain ⟨j, rfl, hj, hw, hb, ho⟩ := hrel
    by_cases hlt : j < len
    · have hjL : j < L.length := by have := unhide HL; omega
      have hr1 := (unhide HR).kept hb (unhide ho)
      obtain ⟨k, off, rfl, hcell, _, _⟩ := hr1.2 j hjL
      clear hr1
      have hx0 : (0 : Int) ≤ (j : Int) := by omega
      have hx1 : (j : Int) < (len : Int) := by omega
      have HS := hide (intsB_take t L j hjL)
      have hsz := intsB_size (L.take j) t
      have hsl : (L.take j).length ≤ len := by rw [List.length_take]; omega
      obtain ⟨y0, y1⟩ := hL L[j] (List.getElem_mem hjL)
      have hvs := vB_size L[j]
      have VF := hide (fun w1 => varForm_any L[j] y0 y1 w1)
      generalize L[j] = y at hcell HS VF hvs
      have hBr : B ≤ wr.heap.size := Nat.le_trans hBw hb.size
      have WS := hide (fun w1 (hb1 : Below wr.heap.size wr w1) => writeString_any B b (intsB t (L.take j)) (vB y) w1 ((unhide hw).below hb1) (by omega) (Nat.le_trans hBr hb1.size))
      generalize vB y = s at HS VF WS
      clear y0 y1 hsz hsl hvs
      go_wp2_with fail
      refine wp_region_pre wr.heap.size 5 1 #[true, true, true, true, true, false] (by kernel_rfl) (by kernel_rfl) (by kernel_rfl) (by kernel_rfl) (by kernel_rfl) (by kernel_rfl) ?_
      (try simp only [List.take_succ_cons, List.take_zero])
      repeat (go_big_quiet_step (first
        | (go_at_call 76; exact Calls.grown (Nat.le_refl _) (unhide VF _))))
      refine wpQuiet_nil ?_
      rintro w5 ⟨d5, rfl⟩
      obtain ⟨W5, hb5⟩ := d5
      dsimp only
      refine wpAny_ready (rs := [5]) (fuel := 0) (by kernel_rfl) (by simp) ?_
      refine AllReady.cons (i := 5) rfl (fun K hK => ?_) AllReady.nil
      go_simp
      refine (unhide WS W5 hb5).mono ?_
      rintro e w6 ⟨rfl, h6, b6, o6⟩
      refine hK _ _ ?_
      clear hK K
      refine ⟨by kernel_rfl, ?_⟩
      have HW6 := hide h6
      have B6 : Below B w w6 := hb.trans ((hb5.mono hBr).trans b6)
      have O6 := hide ((unhide ho).trans ((others_below hb5).trans o6))
      clear h6 b6 o6 hb5 W5
      go_wp2
      go_roundw
      case rel => exact ⟨j + 1, by go_num, by omega, by rw [unhide HS]; exact unhide HW6, B6, unhide O6⟩
      case measure => simp [intOf]; omega
    · obtain rfl : j = len := by omega
      have e : L.take j = L := by rw [List.take_of_length_le]; have := unhide HL; omega
      go_wp2
      go_end0
      refine ⟨rfl, ?_, hb, unhide ho⟩
      have := unhide hw
      rwa [e] at this
theorem drop_more {α : Type} (l : List α) (k : Nat) (h : k < l.length) : l.drop k = l[k] :: l.drop (k + 1) := by
  exact List.drop_eq_getElem_cons h
set_option maxRecDepth 100000 in
set_option maxHeartbeats 2000000 in
theorem putGraph_any (B b C : Nat) (t : ByteArray) (v : Value) (s : Int) (Q : List EdgeI) (hs : 0 ≤ s ∧ s ≤ 1000000000) (hQ : ∀ e ∈ Q, small e.A ∧ small e.B ∧ small e.W1 ∧ small e.W2 ∧ small e.W3) (hn : Q.length ≤ 1048576) (ht : t.size ≤ 100000000) (w : World) (hW : Wri w B b t) (hBw : B ≤ w.heap.size) (hC : C ≤ B) (hv : GrAt w v C s Q) :
    Calls Tryz.prog 19 #[.pointer (some ⟨b, 0, none⟩), v] w fun e w' => e = .returned (.tuple #[]) ∧ Wri w' B b (edgesB ((t ++ vB s) ++ vB (Q.length : Int)) Q) ∧ Below B w w' ∧ Lib.OthersKept 5 (some b) w w' := by
  obtain ⟨a, n, c, rfl, hE⟩ := hv
  have HN := hide hE.1
  have HCE := hide hE.2
  have hnn : n ≤ 1048576 := by have := hE.1; omega
  have hN : (Q.length : Int) = (n : Int) := by have := hE.1; omega
  rw [hN]
  have hblt := hW.lt
  have P1 := hide (fun w1 (hb1 : Below w.heap.size w w1) a' (hr : RowW w1 B b a' 2 [s, (n : Int)]) => put_any B b t a' 2 2 [s, (n : Int)] (by simp; omega) (by omega) w1 (hW.below hb1) (Nat.le_trans hBw hb1.size) hr)
  have e1 : intsB t [s, (n : Int)] = (t ++ vB s) ++ vB (n : Int) := rfl
  rw [e1] at P1
  obtain ⟨S0, hS0⟩ : ∃ x, x = (t ++ vB s) ++ vB (n : Int) := ⟨_, rfl⟩
  have hz0 : S0.size ≤ 100000010 := by
    have h1 := vB_size s
    have h2 := vB_size (n : Int)
    rw [hS0, ByteArray.size_append, ByteArray.size_append]; omega
  rw [← hS0] at P1 ⊢
  clear e1 hS0 hE hW hN
  obtain ⟨T1, hT1⟩ : ∃ x, x = edgesB S0 Q := ⟨_, rfl⟩
  rw [← hT1]
  have H1 : Hid (T1 = edgesB S0 (Q.drop 0)) := hT1
  have HS1 : Hid (∀ S j (h : j < Q.length), edgesB S (Q.drop j) = edgesB (intsB S [Q[j].A, Q[j].B, Q[j].W1, Q[j].W2, Q[j].W3]) (Q.drop (j + 1))) := fun S j h => by rw [drop_more Q j h]; rfl
  clear hT1
  go_enter Tryz.func19, Tryz.ntmps19
  go_wp2_with fail
  obtain ⟨V, hV⟩ : ∃ W, W = w.alloc (Obj.cells #[Value.int .i64 s, Value.slice a n c] 26) := ⟨_, rfl⟩
  have bV : Below w.heap.size w V := by rw [hV]; exact below_new _ _
  have mV : Blk V w.heap.size #[Value.int .i64 s, Value.slice a n c] 26 := by rw [hV]; exact Blk.new0
  have zV : V.heap.size = w.heap.size + 1 := by rw [hV, alloc_size]
  obtain ⟨V1, hV1⟩ : ∃ W, W = V.alloc (Obj.cells #[Value.int .i64 s, Value.int .i64 (n : Int)] 3) := ⟨_, rfl⟩
  have bV1 : Below V.heap.size V V1 := by rw [hV1]; exact below_new _ _
  have rV1 : RowW V1 B b (some ⟨V.heap.size, 0, none⟩) 2 [s, (n : Int)] := by rw [hV1]; exact RowW.new rfl (by omega)
  have mV1 := mV.below bV1
  rw [zV] at rV1
  rw [← hV, ← hV1]
  refine (unhide P1 V1 (bV.trans (bV1.mono bV.size)) _ rV1).mono ?_
  rintro e w1 ⟨rfl, h1, b1, o1⟩
  have mw1 : Blk w1 w.heap.size #[Value.int .i64 s, Value.slice a n c] 26 := others_cell o1 (by omega) mV1 (by decide)
  have hc1 : w1.cell? ⟨w.heap.size, 1, none⟩ = some (.slice a n c) := mw1.cell 1 _ rfl
  have HW1 := hide h1
  have HB1 : Below B w w1 := (bV.trans (bV1.mono bV.size)).mono hBw |>.trans b1
  have HO1 := hide (((others_below bV).trans (others_below bV1)).trans o1)
  clear h1 b1 o1 mw1 mV1 rV1 bV1 hV1 mV bV hV zV V V1 P1
  go_wp2_with fail
  go_loopw [17] (fun i wr => ∃ (j : Nat) (S : ByteArray), i = .int .i64 (j : Int) ∧ j ≤ n ∧ S.size ≤ 100000010 + 25 * j ∧ Hid (T1 = edgesB S (Q.drop j)) ∧ Hid (Wri wr B b S) ∧ Below B w wr ∧ Hid (Lib.OthersKept 5 (some b) w wr)) (fun i _ => n - (intOf i).toNat)
  case atStart => exact ⟨0, S0, rfl, Nat.zero_le _, hz0, unhide H1, unhide HW1, HB1, unhide HO1⟩
  case round =>
    obtain ⟨j, S, rfl, hj, hS, HT, hw, hb, ho⟩ := hrel
    by_cases hlt : j < n
    · have hjQ : j < Q.length := by have := unhide HN; omega
      obtain ⟨k, off, rfl, hkC, d0, d1, d2, d3, d4⟩ := unhide HCE j hjQ
      have re := hQ _ (List.getElem_mem hjQ)
      have HT2 := hide ((unhide HT).trans (unhide HS1 S j hjQ))
      generalize Q[j] = q at d0 d1 d2 d3 d4 re HT2
      obtain ⟨y0, y1, y2, y3, y4⟩ := q
      simp only at d0 d1 d2 d3 d4 re HT2
      obtain ⟨⟨p0, q0⟩, ⟨p1, q1⟩, ⟨p2, q2⟩, ⟨p3, q3⟩, ⟨p4, q4⟩⟩ := re
      rw [← hb.cell (p := ⟨k, off + j * 5, none⟩) (by simp; omega)] at d0
      rw [← hb.cell (p := ⟨k, off + j * 5 + 1, none⟩) (by simp; omega)] at d1
      rw [← hb.cell (p := ⟨k, off + j * 5 + 2, none⟩) (by simp; omega)] at d2
      rw [← hb.cell (p := ⟨k, off + j * 5 + 3, none⟩) (by simp; omega)] at d3
      rw [← hb.cell (p := ⟨k, off + j * 5 + 4, none⟩) (by simp; omega)] at d4
      have hBr : B ≤ wr.heap.size := Nat.le_trans hBw hb.size
      have hbl := (unhide hw).lt
      have hkl : k < wr.heap.size := by omega
      have P1 := hide (fun w1 (hb1 : Below wr.heap.size wr w1) a' (hr : RowW w1 B b a' 5 [y0, y1, y2, y3, y4]) => put_any B b S a' 5 5 [y0, y1, y2, y3, y4] (by simp; omega) (by omega) w1 ((unhide hw).below hb1) (Nat.le_trans hBr hb1.size) hr)
      have hz := intsB_size [y0, y1, y2, y3, y4] S
      generalize intsB S [y0, y1, y2, y3, y4] = S' at P1 HT2 hz
      have hz' : S'.size ≤ 100000010 + 25 * (j + 1) := by simp at hz; omega
      have hx0 : (0 : Int) ≤ (j : Int) := by omega
      have hx1 : (j : Int) < (n : Int) := by omega
      clear p0 p1 p2 p3 p4 q0 q1 q2 q3 q4 hz
      go_wp2_with fail
      obtain ⟨V, hV⟩ : ∃ W, W = wr.alloc (Obj.cells #[Value.int .i64 y0, Value.int .i64 y1, Value.int .i64 y2, Value.int .i64 y3, Value.int .i64 y4] 68) := ⟨_, rfl⟩
      have bV : Below wr.heap.size wr V := by rw [hV]; exact below_new _ _
      have zV : V.heap.size = wr.heap.size + 1 := by rw [hV, alloc_size]
      obtain ⟨V1, hV1⟩ : ∃ W, W = V.alloc (Obj.cells #[Value.int .i64 y0, Value.int .i64 y1, Value.int .i64 y2, Value.int .i64 y3, Value.int .i64 y4] 3) := ⟨_, rfl⟩
      have bV1 : Below V.heap.size V V1 := by rw [hV1]; exact below_new _ _
      have rV1 : RowW V1 B b (some ⟨V.heap.size, 0, none⟩) 5 [y0, y1, y2, y3, y4] := by rw [hV1]; exact RowW.new rfl (by omega)
      rw [zV] at rV1
      rw [← hV, ← hV1]
      have bb := bV.trans (bV1.mono bV.size)
      refine (unhide P1 V1 bb _ rV1).mono ?_
      rintro e w1 ⟨rfl, h1, b1, o1⟩
      have HW2 := hide h1
      have HB2 : Below B w w1 := hb.trans ((bb.mono hBr).trans b1)
      have HO2 := hide ((unhide ho).trans ((others_below bb).trans o1))
      clear h1 b1 o1 rV1 bV1 hV1 bV hV zV bb V V1 P1 d0 d1 d2 d3 d4
      go_wp2
      go_roundw
      case rel => exact ⟨j + 1, S', by go_num, by omega, hz', unhide HT2, unhide HW2, HB2, unhide HO2⟩
      case measure => simp [intOf]; omega
    · obtain rfl : j = n := by omega
      have hT : T1 = S := by rw [unhide HT, List.drop_of_length_le (by have := unhide HN; omega)]; rfl
      go_wp2
      go_end0
      refine ⟨rfl, ?_, hb, unhide ho⟩
      rw [hT]
      exact unhide hw
set_option maxRecDepth 100000 in
set_option maxHeartbeats 2000000 in
theorem putPairs_any (B b C : Nat) (t : ByteArray) (v : Value) (M : List CoupleI) (hQ : ∀ e ∈ M, small e.A ∧ small e.B) (hn : M.length ≤ 1048576) (ht : t.size ≤ 200000000) (w : World) (hW : Wri w B b t) (hBw : B ≤ w.heap.size) (hC : C ≤ B) (hv : CoAt w v C M) :
    Calls Tryz.prog 20 #[.pointer (some ⟨b, 0, none⟩), v] w fun e w' => e = .returned (.tuple #[]) ∧ Wri w' B b (couplesB (t ++ vB (M.length : Int)) M) ∧ Below B w w' ∧ Lib.OthersKept 5 (some b) w w' := by
  obtain ⟨a, c, rfl, hE⟩ := hv
  have HCE := hide hE.2
  obtain ⟨n, hN⟩ : ∃ n, n = M.length := ⟨_, rfl⟩
  rw [← hN] at hn ⊢
  have HN := hide hN
  have hblt := hW.lt
  have P1 := hide (fun w1 (hb1 : Below w.heap.size w w1) a' (hr : RowW w1 B b a' 1 [(n : Int)]) => put_any B b t a' 1 1 [(n : Int)] (by simp; omega) (by omega) w1 (hW.below hb1) (Nat.le_trans hBw hb1.size) hr)
  have e1 : intsB t [(n : Int)] = t ++ vB (n : Int) := rfl
  rw [e1] at P1
  obtain ⟨S0, hS0⟩ : ∃ x, x = t ++ vB (n : Int) := ⟨_, rfl⟩
  have hz0 : S0.size ≤ 200000010 := by
    have h2 := vB_size (n : Int)
    rw [hS0, ByteArray.size_append]; omega
  rw [← hS0] at P1 ⊢
  clear e1 hS0 hE hW hN
  obtain ⟨T1, hT1⟩ : ∃ x, x = couplesB S0 M := ⟨_, rfl⟩
  rw [← hT1]
  have H1 : Hid (T1 = couplesB S0 (M.drop 0)) := hT1
  have HS1 : Hid (∀ S j (h : j < M.length), couplesB S (M.drop j) = couplesB (intsB S [M[j].A, M[j].B]) (M.drop (j + 1))) := fun S j h => by rw [drop_more M j h]; rfl
  clear hT1
  go_enter Tryz.func20, Tryz.ntmps20
  go_wp2_with fail
  obtain ⟨V1, hV1⟩ : ∃ W, W = w.alloc (Obj.cells #[Value.int .i64 (n : Int)] 3) := ⟨_, rfl⟩
  have bV1 : Below w.heap.size w V1 := by rw [hV1]; exact below_new _ _
  have rV1 : RowW V1 B b (some ⟨w.heap.size, 0, none⟩) 1 [(n : Int)] := by rw [hV1]; exact RowW.new rfl (by omega)
  rw [← hV1]
  refine (unhide P1 V1 bV1 _ rV1).mono ?_
  rintro e w1 ⟨rfl, h1, b1, o1⟩
  have HW1 := hide h1
  have HB1 : Below B w w1 := (bV1.mono hBw).trans b1
  have HO1 := hide ((others_below bV1).trans o1)
  clear h1 b1 o1 rV1 bV1 hV1 V1 P1
  go_wp2_with fail
  go_loopw [13] (fun i wr => ∃ (j : Nat) (S : ByteArray), i = .int .i64 (j : Int) ∧ j ≤ n ∧ S.size ≤ 200000010 + 10 * j ∧ Hid (T1 = couplesB S (M.drop j)) ∧ Hid (Wri wr B b S) ∧ Below B w wr ∧ Hid (Lib.OthersKept 5 (some b) w wr)) (fun i _ => n - (intOf i).toNat)
  case atStart => exact ⟨0, S0, rfl, Nat.zero_le _, hz0, unhide H1, unhide HW1, HB1, unhide HO1⟩
  case round =>
    obtain ⟨j, S, rfl, hj, hS, HT, hw, hb, ho⟩ := hrel
    by_cases hlt : j < n
    · have hjQ : j < M.length := by have := unhide HN; omega
      obtain ⟨k, off, rfl, hkC, d0, d1⟩ := unhide HCE j hjQ
      have re := hQ _ (List.getElem_mem hjQ)
      have HT2 := hide ((unhide HT).trans (unhide HS1 S j hjQ))
      generalize M[j] = q at d0 d1 re HT2
      obtain ⟨y0, y1⟩ := q
      simp only at d0 d1 re HT2
      obtain ⟨⟨p0, q0⟩, ⟨p1, q1⟩⟩ := re
      rw [← hb.cell (p := ⟨k, off + j * 2, none⟩) (by simp; omega)] at d0
      rw [← hb.cell (p := ⟨k, off + j * 2 + 1, none⟩) (by simp; omega)] at d1
      have hBr : B ≤ wr.heap.size := Nat.le_trans hBw hb.size
      have hbl := (unhide hw).lt
      have hkl : k < wr.heap.size := by omega
      have P1 := hide (fun w1 (hb1 : Below wr.heap.size wr w1) a' (hr : RowW w1 B b a' 2 [y0, y1]) => put_any B b S a' 2 2 [y0, y1] (by simp; omega) (by omega) w1 ((unhide hw).below hb1) (Nat.le_trans hBr hb1.size) hr)
      have hz := intsB_size [y0, y1] S
      generalize intsB S [y0, y1] = S' at P1 HT2 hz
      have hz' : S'.size ≤ 200000010 + 10 * (j + 1) := by simp at hz; omega
      have hx0 : (0 : Int) ≤ (j : Int) := by omega
      have hx1 : (j : Int) < (n : Int) := by omega
      clear p0 p1 q0 q1 hz
      go_wp2_with fail
      obtain ⟨V, hV⟩ : ∃ W, W = wr.alloc (Obj.cells #[Value.int .i64 y0, Value.int .i64 y1] 70) := ⟨_, rfl⟩
      have bV : Below wr.heap.size wr V := by rw [hV]; exact below_new _ _
      have zV : V.heap.size = wr.heap.size + 1 := by rw [hV, alloc_size]
      obtain ⟨V1, hV1⟩ : ∃ W, W = V.alloc (Obj.cells #[Value.int .i64 y0, Value.int .i64 y1] 3) := ⟨_, rfl⟩
      have bV1 : Below V.heap.size V V1 := by rw [hV1]; exact below_new _ _
      have rV1 : RowW V1 B b (some ⟨V.heap.size, 0, none⟩) 2 [y0, y1] := by rw [hV1]; exact RowW.new rfl (by omega)
      rw [zV] at rV1
      rw [← hV, ← hV1]
      have bb := bV.trans (bV1.mono bV.size)
      refine (unhide P1 V1 bb _ rV1).mono ?_
      rintro e w1 ⟨rfl, h1, b1, o1⟩
      have HW2 := hide h1
      have HB2 : Below B w w1 := hb.trans ((bb.mono hBr).trans b1)
      have HO2 := hide ((unhide ho).trans ((others_below bb).trans o1))
      clear h1 b1 o1 rV1 bV1 hV1 bV hV zV bb V V1 P1 d0 d1
      go_wp2
      go_roundw
      case rel => exact ⟨j + 1, S', by go_num, by omega, hz', unhide HT2, unhide HW2, HB2, unhide HO2⟩
      case measure => simp [intOf]; omega
    · obtain rfl : j = n := by omega
      have hT : T1 = S := by rw [unhide HT, List.drop_of_length_le (by have := unhide HN; omega)]; rfl
      go_wp2
      go_end0
      refine ⟨rfl, ?_, hb, unhide ho⟩
      rw [hT]
      exact unhide hw
set_option maxRecDepth 100000 in
set_option maxHeartbeats 2000000 in
theorem putProof_any (B b C : Nat) (t : ByteArray) (v : Value) (Y : List Int) (G : List GrpI) (hY : ∀ x ∈ Y, small x) (hG : ∀ q ∈ G, q.M.length ≤ 100 ∧ (∀ x ∈ q.M, small x) ∧ small q.Z) (hnY : Y.length ≤ 1048576) (hnG : G.length ≤ 1048576) (ht : t.size ≤ 300000000) (w : World) (hW : Wri w B b t) (hBw : B ≤ w.heap.size) (hC : C ≤ B) (hv : PrAt w v C Y G) :
    Calls Tryz.prog 21 #[.pointer (some ⟨b, 0, none⟩), v] w fun e w' => e = .returned (.tuple #[]) ∧ Wri w' B b (groupsB (intsB t Y ++ vB (G.length : Int)) G) ∧ Below B w w' ∧ Lib.OthersKept 5 (some b) w w' := by
  obtain ⟨a, n, c, a3, m, c3, rfl, hYA, hGA, _⟩ := hv
  have HN := hide hGA.1
  have HCG := hide hGA.2
  have hYn := hYA.1
  have hmm : m ≤ 1048576 := by have := hGA.1; omega
  have hM : (G.length : Int) = (m : Int) := by have := hGA.1; omega
  rw [hM]
  have hblt := hW.lt
  have hzY := intsB_size Y t
  rw [hYn] at hzY
  have P0 := hide (fun w1 (hb1 : Below w.heap.size w w1) => put_any B b t a n c Y hY (by omega) w1 (hW.below hb1) (Nat.le_trans hBw hb1.size) (RowW.of_ints (hYA.below (hb1.mono hBw) hC) hC (Nat.le_trans hBw hb1.size)))
  generalize intsB t Y = S1 at hzY P0 ⊢
  have P1 := hide (fun w1 (hW1 : Wri w1 B b S1) (hB1 : B ≤ w1.heap.size) a' (hr : RowW w1 B b a' 1 [(m : Int)]) => put_any B b S1 a' 1 1 [(m : Int)] (by simp; omega) (by omega) w1 hW1 hB1 hr)
  have e1 : intsB S1 [(m : Int)] = S1 ++ vB (m : Int) := rfl
  rw [e1] at P1
  obtain ⟨S0, hS0⟩ : ∃ x, x = S1 ++ vB (m : Int) := ⟨_, rfl⟩
  have hz0 : S0.size ≤ 310000000 := by
    have h2 := vB_size (m : Int)
    rw [hS0, ByteArray.size_append]; omega
  rw [← hS0] at P1 ⊢
  obtain ⟨T1, hT1⟩ : ∃ x, x = groupsB S0 G := ⟨_, rfl⟩
  rw [← hT1]
  have H1 : Hid (T1 = groupsB S0 (G.drop 0)) := hT1
  have HS1 : Hid (∀ S j (h : j < G.length), groupsB S (G.drop j) = groupsB (intsB (intsB (intsB S [(G[j].M.length : Int)]) G[j].M) [G[j].Z]) (G.drop (j + 1))) := fun S j h => by rw [drop_more G j h]; rfl
  clear hT1 e1 hS0 hYA hGA hM hYn hzY
  have HW0 := hide hW
  clear hW
  go_enter Tryz.func21, Tryz.ntmps21
  go_wp2_with fail
  obtain ⟨V, hV⟩ : ∃ W, W = w.alloc (Obj.cells #[Value.slice a n c, Value.slice a3 m c3] 31) := ⟨_, rfl⟩
  have bV : Below w.heap.size w V := by rw [hV]; exact below_new _ _
  have mV : Blk V w.heap.size #[Value.slice a n c, Value.slice a3 m c3] 31 := by rw [hV]; exact Blk.new0
  rw [← hV]
  clear hV
  refine (unhide P0 V bV).mono ?_
  rintro e w1 ⟨rfl, h1, b1, o1⟩
  have mw1 : Blk w1 w.heap.size #[Value.slice a n c, Value.slice a3 m c3] 31 := others_cell o1 (by omega) mV (by decide)
  have hc1 : w1.cell? ⟨w.heap.size, 1, none⟩ = some (.slice a3 m c3) := mw1.cell 1 _ rfl
  have HW1 := hide h1
  have HB1 : Below B w w1 := (bV.mono hBw).trans b1
  have HO1 := hide ((others_below bV).trans o1)
  have hblt1 := h1.lt
  clear h1 b1 o1 mV bV V P0
  go_wp2_with fail
  obtain ⟨V1, hV1⟩ : ∃ W, W = w1.alloc (Obj.cells #[Value.int .i64 (m : Int)] 3) := ⟨_, rfl⟩
  have bV1 : Below w1.heap.size w1 V1 := by rw [hV1]; exact below_new _ _
  have rV1 : RowW V1 B b (some ⟨w1.heap.size, 0, none⟩) 1 [(m : Int)] := by rw [hV1]; exact RowW.new rfl hblt1
  have mV1 := mw1.below bV1
  rw [← hV1]
  have hB1w : B ≤ w1.heap.size := Nat.le_trans hBw HB1.size
  refine (unhide P1 V1 ((unhide HW1).below bV1) (Nat.le_trans hB1w bV1.size) _ rV1).mono ?_
  rintro e w2 ⟨rfl, h2, b2, o2⟩
  have mw2 : Blk w2 w.heap.size #[Value.slice a n c, Value.slice a3 m c3] 31 := others_cell o2 (by omega) mV1 (by decide)
  have hc2 : w2.cell? ⟨w.heap.size, 1, none⟩ = some (.slice a3 m c3) := mw2.cell 1 _ rfl
  have HW2 := hide h2
  have HB2 : Below B w w2 := HB1.trans ((bV1.mono hB1w).trans b2)
  have HO2 := hide ((unhide HO1).trans ((others_below bV1).trans o2))
  clear h2 b2 o2 mw1 mw2 mV1 rV1 bV1 hV1 V1 P1 hc1 HW1 HB1 HO1
  go_wp2_with fail
  go_loopw [19] (fun i wr => ∃ (j : Nat) (S : ByteArray), i = .int .i64 (j : Int) ∧ j ≤ m ∧ S.size ≤ 310000000 + 1000 * j ∧ Hid (T1 = groupsB S (G.drop j)) ∧ Hid (Wri wr B b S) ∧ Below B w wr ∧ Hid (Lib.OthersKept 5 (some b) w wr)) (fun i _ => m - (intOf i).toNat)
  case atStart => exact ⟨0, S0, rfl, Nat.zero_le _, hz0, unhide H1, unhide HW2, HB2, unhide HO2⟩
  case round =>
    obtain ⟨j, S, rfl, hj, hS, HT, hw, hb, ho⟩ := hrel
    by_cases hlt : j < m
    · have hjG : j < G.length := by have := unhide HN; omega
      obtain ⟨k, off, a5, c5, rfl, hkC, d0, d1, hIA⟩ := unhide HCG j hjG
      have re := hG _ (List.getElem_mem hjG)
      have HT2 := hide ((unhide HT).trans (unhide HS1 S j hjG))
      generalize G[j] = q at d0 d1 hIA re HT2
      obtain ⟨K, z⟩ := q
      simp only at d0 d1 hIA re HT2
      obtain ⟨hl, hK, z0, z1⟩ := re
      rw [← hb.cell (p := ⟨k, off + j * 2, none⟩) (by simp; omega)] at d0
      rw [← hb.cell (p := ⟨k, off + j * 2 + 1, none⟩) (by simp; omega)] at d1
      have hBr : B ≤ wr.heap.size := Nat.le_trans hBw hb.size
      have hbl := (unhide hw).lt
      have hkl : k < wr.heap.size := by omega
      have hzK := intsB_size [(K.length : Int)] S
      have R1 := hide (fun w1 (hW1 : Wri w1 B b S) (hB1 : B ≤ w1.heap.size) a' (hr : RowW w1 B b a' 1 [(K.length : Int)]) => put_any B b S a' 1 1 [(K.length : Int)] (by simp; omega) (by omega) w1 hW1 hB1 hr)
      generalize intsB S [(K.length : Int)] = S3 at R1 HT2 hzK
      simp at hzK
      have hzK2 := intsB_size K S3
      have hIB := hIA.below hb hC
      have R2 := hide (fun w1 (hb1 : Below B wr w1) (hW1 : Wri w1 B b S3) (hB1 : B ≤ w1.heap.size) => put_any B b S3 a5 K.length c5 K hK (by omega) w1 hW1 hB1 (RowW.of_ints (hIB.below hb1 hC) hC hB1))
      generalize intsB S3 K = S4 at R2 HT2 hzK2
      have R3 := hide (fun w1 (hW1 : Wri w1 B b S4) (hB1 : B ≤ w1.heap.size) a' (hr : RowW w1 B b a' 1 [z]) => put_any B b S4 a' 1 1 [z] (by simp; exact ⟨z0, z1⟩) (by omega) w1 hW1 hB1 hr)
      have hzZ := intsB_size [z] S4
      generalize intsB S4 [z] = S5 at R3 HT2 hzZ
      simp at hzZ
      have hz' : S5.size ≤ 310000000 + 1000 * (j + 1) := by omega
      have hx0 : (0 : Int) ≤ (j : Int) := by omega
      have hx1 : (j : Int) < (m : Int) := by omega
      obtain ⟨kn, hkn⟩ : ∃ kn, kn = K.length := ⟨_, rfl⟩
      rw [← hkn] at R1 R2 d0
      clear z0 z1 hzK hzK2 hzZ hIB hIA hK hl hkn
      go_wp2_with fail
      obtain ⟨V, hV⟩ : ∃ W, W = wr.alloc (Obj.cells #[Value.slice a5 kn c5, Value.int .i64 z] 73) := ⟨_, rfl⟩
      have bV : Below wr.heap.size wr V := by rw [hV]; exact below_new _ _
      have zV : V.heap.size = wr.heap.size + 1 := by rw [hV, alloc_size]
      have mV : Blk V wr.heap.size #[Value.slice a5 kn c5, Value.int .i64 z] 73 := by rw [hV]; exact Blk.new0
      obtain ⟨V1, hV1⟩ : ∃ W, W = V.alloc (Obj.cells #[Value.int .i64 (kn : Int)] 3) := ⟨_, rfl⟩
      have bV1 : Below V.heap.size V V1 := by rw [hV1]; exact below_new _ _
      have rV1 : RowW V1 B b (some ⟨V.heap.size, 0, none⟩) 1 [(kn : Int)] := by rw [hV1]; exact RowW.new rfl (by omega)
      have mV1 := mV.below bV1
      rw [zV] at rV1
      rw [← hV, ← hV1]
      have bb := bV.trans (bV1.mono bV.size)
      refine (unhide R1 V1 ((unhide hw).below bb) (Nat.le_trans hBr bb.size) _ rV1).mono ?_
      rintro e w1 ⟨rfl, h1, b1, o1⟩
      have mw1 : Blk w1 wr.heap.size #[Value.slice a5 kn c5, Value.int .i64 z] 73 := others_cell o1 (by omega) mV1 (by decide)
      have m0 : w1.cell? ⟨wr.heap.size, 0, none⟩ = some (.slice a5 kn c5) := mw1.cell 0 _ rfl
      have BB1 : Below B wr w1 := (bb.mono hBr).trans b1
      have HO3 := hide ((others_below bb).trans o1)
      have HW3 := hide h1
      clear h1 b1 o1 rV1 bV1 hV1 bV hV zV bb mV mV1 V V1 R1 d0 d1
      go_wp2_with fail
      refine (unhide R2 w1 BB1 (unhide HW3) (Nat.le_trans hBr BB1.size)).mono ?_
      rintro e w2 ⟨rfl, h2, b2, o2⟩
      have mw2 : Blk w2 wr.heap.size #[Value.slice a5 kn c5, Value.int .i64 z] 73 := others_cell o2 (by omega) mw1 (by decide)
      have m1 : w2.cell? ⟨wr.heap.size, 1, none⟩ = some (.int .i64 z) := mw2.cell 1 _ rfl
      have BB2 : Below B wr w2 := BB1.trans b2
      have HO4 := hide ((unhide HO3).trans o2)
      have HW4 := hide h2
      have hbl2 := h2.lt
      have hB2w : B ≤ w2.heap.size := Nat.le_trans hBr BB2.size
      clear h2 b2 o2 mw1 m0 R2 HO3 HW3 BB1
      go_wp2_with fail
      obtain ⟨V1, hV1⟩ : ∃ W, W = w2.alloc (Obj.cells #[Value.int .i64 z] 3) := ⟨_, rfl⟩
      have bV1 : Below w2.heap.size w2 V1 := by rw [hV1]; exact below_new _ _
      have rV1 : RowW V1 B b (some ⟨w2.heap.size, 0, none⟩) 1 [z] := by rw [hV1]; exact RowW.new rfl hbl2
      rw [← hV1]
      refine (unhide R3 V1 ((unhide HW4).below bV1) (Nat.le_trans hB2w bV1.size) _ rV1).mono ?_
      rintro e w3 ⟨rfl, h3, b3, o3⟩
      have HW5 := hide h3
      have HB5 : Below B w w3 := hb.trans (BB2.trans ((bV1.mono hB2w).trans b3))
      have HO5 := hide ((unhide ho).trans ((unhide HO4).trans ((others_below bV1).trans o3)))
      clear h3 b3 o3 rV1 bV1 hV1 V1 R3 m1 mw2
      go_wp2
      go_roundw
      case rel => exact ⟨j + 1, S5, by go_num, by omega, hz', unhide HT2, unhide HW5, HB5, unhide HO5⟩
      case measure => simp [intOf]; omega
    · obtain rfl : j = m := by omega
      have hT : T1 = S := by rw [unhide HT, List.drop_of_length_le (by have := unhide HN; omega)]; rfl
      go_wp2
      go_end0
      refine ⟨rfl, ?_, hb, unhide ho⟩
      rw [hT]
      exact unhide hw
end Gr
end Go.Proofs.YthbhdfeafbineaaGreat
