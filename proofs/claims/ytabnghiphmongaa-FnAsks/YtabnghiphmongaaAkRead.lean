/-
  The contract of spec.ReadAsk.
-/
import Derived.Test.YtabnghiphmongaaAkSpec2
import Derived.Test.YtabnghiphmongaaGrRC1
import Derived.Test.YtabnghiphmongaaGrMid
import Derived.Deep.RegionHeld3
namespace Go.Proofs.Ytabnghiphmongaa
namespace Gr
open Go.RowKit

theorem rdN_length (t : ByteArray) : ∀ (k : Nat) (c : CS), (rdN t k c).1.length = k
  | 0, _ => rfl
  | k + 1, c => by
    show (_ :: (rdN t k _).1).length = _
    rw [List.length_cons, rdN_length t k]

theorem rdN_snoc (t : ByteArray) : ∀ (k : Nat) (c : CS), rdN t (k + 1) c = ((rdN t k c).1 ++ [(rd t (rdN t k c).2).1], (rd t (rdN t k c).2).2)
  | 0, c => rfl
  | k + 1, c => by
    have h := rdN_snoc t k (rd t c).2
    show ((rd t c).1 :: (rdN t (k + 1) (rd t c).2).1, (rdN t (k + 1) (rd t c).2).2) = _
    rw [h]
    rfl

def cellsL (L : List Int) : Array Value := (L.map (fun y => Value.int .i64 y)).toArray

theorem padL_length (L : List Int) (h : L.length ≤ 5) : (padL L).length = 5 := by unfold padL; simp; omega

theorem padL_set (L : List Int) (y : Int) (h : L.length < 5) : (padL L).set L.length y = padL (L ++ [y]) := by
  unfold padL
  obtain ⟨m, hm⟩ : ∃ m, 5 - L.length = m + 1 := ⟨4 - L.length, by omega⟩
  rw [hm, List.length_append, List.length_singleton, show 5 - (L.length + 1) = m by omega, List.replicate_succ]
  simp

theorem cellsL_set (L : List Int) (k : Nat) (y : Int) : (cellsL L).setIfInBounds k (.int .i64 y) = cellsL (L.set k y) := by
  unfold cellsL
  simp [List.map_set]

theorem cellsL_at (L : List Int) (k : Nat) (h : k < L.length) : (cellsL L)[k]? = some (.int .i64 L[k]) := by
  unfold cellsL
  simp [h]

theorem results_cell_tmp {fn : Func} {p u : Tmp} {ty : TypeId} (h : fn.results = #[.cell p ty, .tmp u]) (tmps : Array Value) (P : Program) (w : World) (ad : Addr) (v : Value) (hp : tmps.getD p undef = .pointer (some ad)) (hl : (loadVar ty ad).run P w = .ok v w) :
    (results fn tmps).run P w = .ok (.tuple #[v, tmps.getD u undef]) w := by
  have hp' : tmps[p]?.getD undef = .pointer (some ad) := by simpa using hp
  simp [results, h, hp', asAddr, hl, Result.andThen]

theorem infoAsk6 : (Try.prog.info? 26).map (·.size) = some 6 := by kernel_rfl

theorem load_ask {W : World} {g : Nat} {C : Array Value} (h : Blk W g C 26) (hC : C.size = 6) : (loadVar 26 ⟨g, 0, none⟩).run Try.prog W = .ok (.agg C) W := by
  have h1 := run_loadVar_mid (P := Try.prog) W g 0 26 C.toList _ h.range Try.underlying26 rfl (by rw [Array.length_toList, hC]; exact infoAsk6)
  rwa [Array.toArray_toList] at h1

theorem results_ask2 {fn : Func} {p u : Tmp} (h : fn.results = #[.cell p 26, .tmp u]) (tmps : Array Value) (w : World) (g : Nat) (C : Array Value) (hp : tmps.getD p undef = .pointer (some ⟨g, 0, none⟩)) (hg : Blk w g C 26) (hC : C.size = 6) :
    (results fn tmps).run Try.prog w = .ok (.tuple #[.agg C, tmps.getD u undef]) w := results_cell_tmp h tmps _ w _ _ hp (load_ask hg hC)

theorem wrap_byte (x : Int) (h0 : 0 ≤ x) (h1 : x ≤ 255) : IntKind.i64.wrap x = x := by
  have e : IntKind.i64.wrap x = if (9223372036854775808 : Int) ≤ x % 18446744073709551616 then x % 18446744073709551616 - 18446744073709551616 else x % 18446744073709551616 := by
    simp [IntKind.wrap, IntKind.signed, IntKind.bits]
  rw [e]
  split <;> omega

theorem opOf_range (t : ByteArray) : 0 ≤ opOf t ∧ opOf t ≤ 255 := by
  have := byteAt_lt t 0
  unfold opOf
  omega

set_option maxRecDepth 100000 in
set_option maxHeartbeats 8000000 in
theorem specReadAsk_any (t : ByteArray) (ht : t.size ≤ 1048576) (w : World) :
    Calls Try.prog 9 #[.string t] w fun e w' => e = .returned (.tuple #[(raV t).v, .bool (raOk t)]) ∧ Below w.heap.size w w' := by
  have hV : raV t = if raOk t = true then raX t else AskI.zero := rfl
  by_cases h0 : t.size = 0
  · have hO : raOk t = false := by unfold raOk; rw [h0]; rfl
    rw [hO] at hV ⊢
    simp at hV
    rw [hV]
    unfold AskI.v AskI.zero
    simp only
    have e0 : ((t.size : Int) == 0) = true := by rw [h0]; rfl
    have H0 := hide h0
    clear h0 hV hO
    go_enter Try.func9, Try.ntmps9
    go_wp2_with fail
    go_returns
    exact ⟨rfl, (Below.refl _ _).alloc (Nat.le_refl _) _⟩
  · have hO : raOk t = (!(rdN t (askN (opOf t)) ⟨1, false⟩).2.b && (askOk (raX t) && decide (askT (raX t) = t))) := by
      unfold raOk
      rw [decide_eq_true (by omega : 0 < t.size), Bool.true_and]
    have hX : raX t = askOf (opOf t) (rdN t (askN (opOf t)) ⟨1, false⟩).1 := rfl
    have NM := hide (fun w => askNum_is (opOf t) w)
    have AT := hide (fun w => specAskText_any (raX t) w)
    have LV := hide (fun g c w hc => l12Var_any t ht g c w hc)
    have hn5 := askN_le (opOf t)
    have HSN := hide (fun k => rdN_snoc t k ⟨1, false⟩)
    have HLN := hide (fun k => rdN_length t k ⟨1, false⟩)
    have hlt0 : 0 < t.size := by omega
    have hop : ((t[0]'hlt0).toNat : Int) = opOf t := by
      unfold opOf
      rw [byteAt_eq hlt0]
    have hopr := opOf_range t
    have hb0 : (0 : Int) ≤ ((t[0]'hlt0).toNat : Int) := by omega
    have hb255 : ((t[0]'hlt0).toNat : Int) ≤ 255 := by rw [hop]; omega
    have hwr : IntKind.i64.wrap ((t[0]'hlt0).toNat : Int) = opOf t := by rw [hop]; exact wrap_byte _ hopr.1 hopr.2
    have HWR := hide hwr
    clear hwr
    have e0 : ((t.size : Int) == 0) = false := by
      rw [beq_eq_false_iff_ne]
      omega
    have hp0 : (0 : Int) < (t.size : Int) := by omega
    have hz : t.size ≠ 0 := h0
    have HZ := hide hz
    have HOP := hide hop
    generalize raOk t = O at hO hV ⊢
    generalize raV t = X at hV ⊢
    have HV := hide hV
    have HO := hide hO
    have HX := hide hX
    clear hV hO hX hop hz h0
    generalize askN (opOf t) = n at NM HO HX hn5
    rw [← unhide HOP] at NM
    go_enter Try.func9, Try.ntmps9
    go_wp2_with fail
    obtain ⟨V, hVV⟩ : ∃ W, W = ((w.alloc (Obj.cells #[Value.int .i64 0, Value.int .i64 0, Value.int .i64 0, Value.int .i64 0, Value.int .i64 0, Value.int .i64 0] 26)).alloc (Obj.cells #[Value.string t, Value.int .i64 1, Value.bool false] 51)).alloc (Obj.cells #[Value.int .i64 0, Value.int .i64 0, Value.int .i64 0, Value.int .i64 0, Value.int .i64 0] 3) := ⟨_, rfl⟩
    rw [← hVV]
    have bV : Below w.heap.size w V := by rw [hVV]; exact ((below_new _ _).alloc (by simp) _).alloc (by simp; omega) _
    have HR0 : Hid (Blk V w.heap.size #[Value.int .i64 0, Value.int .i64 0, Value.int .i64 0, Value.int .i64 0, Value.int .i64 0, Value.int .i64 0] 26) := by show Blk _ _ _ _; rw [hVV]; exact Blk.new0.alloc.alloc
    have HC0 : Hid (CuAt V (w.heap.size + 1) t ⟨1, false⟩) := by show CuAt _ _ _ _; rw [hVV]; exact ⟨Blk.new1.alloc, by show 1 ≤ t.size; omega⟩
    have HL0 : Hid (Blk V (w.heap.size + 1 + 1) (cellsL (padL [])) 3) := by show Blk _ _ _ _; rw [hVV]; exact Blk.new2
    clear hVV
    go_loopw [6] (fun iv wr => ∃ k : Nat, iv = .int .i64 (k : Int) ∧ k ≤ n ∧ Hid (CuAt wr (w.heap.size + 1) t (rdN t k ⟨1, false⟩).2) ∧ Hid (Blk wr (w.heap.size + 1 + 1) (cellsL (padL (rdN t k ⟨1, false⟩).1)) 3) ∧ Hid (Blk wr w.heap.size #[Value.int .i64 0, Value.int .i64 0, Value.int .i64 0, Value.int .i64 0, Value.int .i64 0, Value.int .i64 0] 26) ∧ Hid (Below w.heap.size w wr)) (fun iv _ => n - (intOf iv).toNat)
    case atStart => exact ⟨0, rfl, Nat.zero_le _, HC0, HL0, HR0, bV⟩
    case round =>
      obtain ⟨k, rfl, hk, HC, HL, HR, HB⟩ := hrel
      by_cases hlt : k < n
      · have hx0 : (0 : Int) ≤ (k : Int) := by omega
        have hx1 : (k : Int) < (n : Int) := by omega
        have hx5 : (k : Int) < 5 := by omega
        have HSk := hide (unhide HSN k)
        have HLk := hide (unhide HLN k)
        have LVk := hide (fun w1 hc => unhide LV (w.heap.size + 1) (rdN t k ⟨1, false⟩).2 w1 hc)
        generalize rdN t k ⟨1, false⟩ = Rk at HC HL HSk HLk LVk
        obtain ⟨Lk, ck⟩ := Rk
        simp only at HC HL HSk HLk LVk
        generalize rd t ck = rk at HSk LVk
        obtain ⟨yk, ck'⟩ := rk
        simp only at HSk LVk
        go_wp2_with fail
        refine (unhide NM _).mono ?_
        rintro e w1 ⟨rfl, rfl⟩
        go_wp2_with fail
        refine (unhide LVk _ (unhide HC)).mono ?_
        rintro e w2 ⟨rfl, hc2, hk2⟩
        have l2 : Blk w2 (w.heap.size + 1 + 1) (cellsL (padL Lk)) 3 := (unhide HL).kept hk2 (by omega)
        have r2 : Blk w2 w.heap.size #[Value.int .i64 0, Value.int .i64 0, Value.int .i64 0, Value.int .i64 0, Value.int .i64 0, Value.int .i64 0] 26 := (unhide HR).kept hk2 (by omega)
        have hb2 : Below w.heap.size w w2 := (unhide HB).trans (hk2.below (unhide HB).size (fun i hi => by omega))
        have hpl := padL_length Lk (by have := unhide HLk; omega)
        have q1 := l2.cell k _ (cellsL_at (padL Lk) k (by omega))
        have f1 := l2.froz k
        have HL3 : Hid (Blk (w2.setCell ⟨w.heap.size + 1 + 1, k, none⟩ (.int .i64 yk)) (w.heap.size + 1 + 1) (cellsL (padL (rdN t (k + 1) ⟨1, false⟩).1)) 3) := by
          show Blk _ _ _ _
          rw [unhide HSk]
          have h := l2.set k (.int .i64 yk)
          have hlk := unhide HLk
          rw [cellsL_set] at h
          have h2 := padL_set Lk yk (by omega)
          rw [hlk] at h2
          rw [h2] at h
          exact h
        have HC3 : Hid (CuAt (w2.setCell ⟨w.heap.size + 1 + 1, k, none⟩ (.int .i64 yk)) (w.heap.size + 1) t (rdN t (k + 1) ⟨1, false⟩).2) := by
          show CuAt _ _ _ _
          rw [unhide HSk]
          exact hc2.kept (S := fun i => i = w.heap.size + 1 + 1) (Kept.set _ _ _ _ rfl) (by omega)
        have HR3 : Hid (Blk (w2.setCell ⟨w.heap.size + 1 + 1, k, none⟩ (.int .i64 yk)) w.heap.size #[Value.int .i64 0, Value.int .i64 0, Value.int .i64 0, Value.int .i64 0, Value.int .i64 0, Value.int .i64 0] 26) := r2.set_other (by omega) _ _
        have HB3 : Hid (Below w.heap.size w (w2.setCell ⟨w.heap.size + 1 + 1, k, none⟩ (.int .i64 yk))) := hb2.setCell (p := ⟨w.heap.size + 1 + 1, k, none⟩) (by simp; omega) _
        generalize (padL Lk)[k]'(by omega) = y0 at q1
        clear hc2 hk2 l2 r2 hb2 hpl LVk HSk HLk HC HL HR HB
        go_wp2_with fail
        exact ⟨⟨k + 1, by go_num, by omega, HC3, HL3, HR3, HB3⟩, by simp [intOf]; omega⟩
      · obtain rfl : k = n := by omega
        have HLk := hide (unhide HLN k)
        generalize rdN t k ⟨1, false⟩ = Rk at HC HL HO HX HLk
        obtain ⟨Lk, ck⟩ := Rk
        simp only at HC HL HO HX HLk
        have hpl := padL_length Lk (by have := unhide HLk; omega)
        obtain ⟨y0, y1, y2, y3, y4, hyL⟩ : ∃ y0 y1 y2 y3 y4, padL Lk = [y0, y1, y2, y3, y4] := by
          match padL Lk, hpl with
          | [a, b, c, d, e], _ => exact ⟨a, b, c, d, e, rfl⟩
        rw [hyL] at HL
        have hXe : raX t = ⟨opOf t, y0, y1, y2, y3, y4⟩ := by
          rw [unhide HX]
          unfold askOf
          rw [hyL]
          rfl
        rw [hXe] at AT HO HV
        clear HX hyL hpl hXe
        have hx5 : ¬ ((k : Int) < (k : Int)) := by omega
        have hl := unhide HL
        have zl := hl.lt
        have zc := (unhide HC).lt
        have k0 : wr.cell? ⟨w.heap.size + 1 + 1, 0, none⟩ = some (.int .i64 y0) := hl.cell 0 _ rfl
        have k1 : wr.cell? ⟨w.heap.size + 1 + 1, 1, none⟩ = some (.int .i64 y1) := hl.cell 1 _ rfl
        have k2 : wr.cell? ⟨w.heap.size + 1 + 1, 2, none⟩ = some (.int .i64 y2) := hl.cell 2 _ rfl
        have k3 : wr.cell? ⟨w.heap.size + 1 + 1, 3, none⟩ = some (.int .i64 y3) := hl.cell 3 _ rfl
        have k4 : wr.cell? ⟨w.heap.size + 1 + 1, 4, none⟩ = some (.int .i64 y4) := hl.cell 4 _ rfl
        clear hl
        go_wp2_with fail
        refine (unhide NM _).mono ?_
        rintro e w1 ⟨rfl, rfl⟩
        go_wp2_with fail
        go_region_held3 (fun u => u.cell? ⟨w.heap.size + 1 + 1, 0, none⟩ = some (.int .i64 y0) ∧ u.cell? ⟨w.heap.size + 1 + 1, 1, none⟩ = some (.int .i64 y1) ∧ u.cell? ⟨w.heap.size + 1 + 1, 2, none⟩ = some (.int .i64 y2) ∧ u.cell? ⟨w.heap.size + 1 + 1, 3, none⟩ = some (.int .i64 y3) ∧ u.cell? ⟨w.heap.size + 1 + 1, 4, none⟩ = some (.int .i64 y4))
          (first | go_keep) (first | fail)
        all_goals
          clear k0 k1 k2 k3 k4
          rw [unhide HWR]
          obtain ⟨U, hU⟩ : ∃ W, W = (w1.alloc (Obj.cells #[Value.int .i64 (opOf t), Value.int .i64 y0, Value.int .i64 y1, Value.int .i64 y2, Value.int .i64 y3, Value.int .i64 y4] 26)).drew := ⟨_, rfl⟩
          rw [← hU]
          have nU : Below w1.heap.size w1 U := by rw [hU]; exact (below_new _ _).drew
          have HXU : Hid (Blk U w1.heap.size #[Value.int .i64 (opOf t), Value.int .i64 y0, Value.int .i64 y1, Value.int .i64 y2, Value.int .i64 y3, Value.int .i64 y4] 26) := by show Blk _ _ _ _; rw [hU]; exact Blk.new0.drew
          have HCU := hide ((unhide HC).below nU)
          have HRU := hide ((unhide HR).below nU)
          have HBU := hide ((unhide HB).trans (nU.mono (unhide HB).size))
          have zr := (unhide HR).lt
          clear hU nU HC HR HB HL
          have g0 : U.cell? ⟨w1.heap.size, 0, none⟩ = some (.int .i64 (opOf t)) := (unhide HXU).cell 0 _ rfl
          have g1 : U.cell? ⟨w1.heap.size, 1, none⟩ = some (.int .i64 y0) := (unhide HXU).cell 1 _ rfl
          have g2 : U.cell? ⟨w1.heap.size, 2, none⟩ = some (.int .i64 y1) := (unhide HXU).cell 2 _ rfl
          have g3 : U.cell? ⟨w1.heap.size, 3, none⟩ = some (.int .i64 y2) := (unhide HXU).cell 3 _ rfl
          have g4 : U.cell? ⟨w1.heap.size, 4, none⟩ = some (.int .i64 y3) := (unhide HXU).cell 4 _ rfl
          have g5 : U.cell? ⟨w1.heap.size, 5, none⟩ = some (.int .i64 y4) := (unhide HXU).cell 5 _ rfl
          go_wp2_with fail
          clear g0 g1 g2 g3 g4 g5
          unfold AskI.v at AT
          simp only at AT
          refine (unhide AT U).mono ?_
          rintro e w4 ⟨rfl, hb4⟩
          have HX4 := hide ((unhide HXU).below hb4)
          have HR4 := hide ((unhide HRU).below hb4)
          have HB4 := hide ((unhide HBU).trans (hb4.mono (unhide HBU).size))
          have p2 : w4.cell? ⟨w.heap.size + 1, 2, none⟩ = some (.bool ck.b) := ((unhide HCU).below hb4).bad
          clear hb4 HXU HRU HBU HCU
          have r0 : w4.cell? ⟨w.heap.size, 0, none⟩ = some (.int .i64 0) := (unhide HR4).cell 0 _ rfl
          have f0 := (unhide HR4).froz 0
          have r1 : w4.cell? ⟨w.heap.size, 1, none⟩ = some (.int .i64 0) := (unhide HR4).cell 1 _ rfl
          have f1 := (unhide HR4).froz 1
          have r2 : w4.cell? ⟨w.heap.size, 2, none⟩ = some (.int .i64 0) := (unhide HR4).cell 2 _ rfl
          have f2 := (unhide HR4).froz 2
          have r3 : w4.cell? ⟨w.heap.size, 3, none⟩ = some (.int .i64 0) := (unhide HR4).cell 3 _ rfl
          have f3 := (unhide HR4).froz 3
          have r4 : w4.cell? ⟨w.heap.size, 4, none⟩ = some (.int .i64 0) := (unhide HR4).cell 4 _ rfl
          have f4 := (unhide HR4).froz 4
          have r5 : w4.cell? ⟨w.heap.size, 5, none⟩ = some (.int .i64 0) := (unhide HR4).cell 5 _ rfl
          have f5 := (unhide HR4).froz 5
          have g0 : w4.cell? ⟨w1.heap.size, 0, none⟩ = some (.int .i64 (opOf t)) := (unhide HX4).cell 0 _ rfl
          have g1 : w4.cell? ⟨w1.heap.size, 1, none⟩ = some (.int .i64 y0) := (unhide HX4).cell 1 _ rfl
          have g2 : w4.cell? ⟨w1.heap.size, 2, none⟩ = some (.int .i64 y1) := (unhide HX4).cell 2 _ rfl
          have g3 : w4.cell? ⟨w1.heap.size, 3, none⟩ = some (.int .i64 y2) := (unhide HX4).cell 3 _ rfl
          have g4 : w4.cell? ⟨w1.heap.size, 4, none⟩ = some (.int .i64 y3) := (unhide HX4).cell 4 _ rfl
          have g5 : w4.cell? ⟨w1.heap.size, 5, none⟩ = some (.int .i64 y4) := (unhide HX4).cell 5 _ rfl
          have HBS : Hid (∀ a0 a1 a2 a3 a4 a5 : Int, Below w.heap.size w ((((((w4.setCell ⟨w.heap.size, 0, none⟩ (.int .i64 a0)).setCell ⟨w.heap.size, 1, none⟩ (.int .i64 a1)).setCell ⟨w.heap.size, 2, none⟩ (.int .i64 a2)).setCell ⟨w.heap.size, 3, none⟩ (.int .i64 a3)).setCell ⟨w.heap.size, 4, none⟩ (.int .i64 a4)).setCell ⟨w.heap.size, 5, none⟩ (.int .i64 a5)) ∧ Blk ((((((w4.setCell ⟨w.heap.size, 0, none⟩ (.int .i64 a0)).setCell ⟨w.heap.size, 1, none⟩ (.int .i64 a1)).setCell ⟨w.heap.size, 2, none⟩ (.int .i64 a2)).setCell ⟨w.heap.size, 3, none⟩ (.int .i64 a3)).setCell ⟨w.heap.size, 4, none⟩ (.int .i64 a4)).setCell ⟨w.heap.size, 5, none⟩ (.int .i64 a5)) w.heap.size #[.int .i64 a0, .int .i64 a1, .int .i64 a2, .int .i64 a3, .int .i64 a4, .int .i64 a5] 26) := fun a0 a1 a2 a3 a4 a5 => by
            refine ⟨?_, ?_⟩
            · have h0 := unhide HB4
              exact (((((h0.setCell (p := ⟨w.heap.size, 0, none⟩) (Nat.le_refl _) _).setCell (p := ⟨w.heap.size, 1, none⟩) (Nat.le_refl _) _).setCell (p := ⟨w.heap.size, 2, none⟩) (Nat.le_refl _) _).setCell (p := ⟨w.heap.size, 3, none⟩) (Nat.le_refl _) _).setCell (p := ⟨w.heap.size, 4, none⟩) (Nat.le_refl _) _).setCell (p := ⟨w.heap.size, 5, none⟩) (Nat.le_refl _) _
            · exact ((((((unhide HR4).set 0 _).set 1 _).set 2 _).set 3 _).set 4 _).set 5 _
          obtain ⟨bT, hbT⟩ : ∃ x, x = askT ⟨opOf t, y0, y1, y2, y3, y4⟩ := ⟨_, rfl⟩
          obtain ⟨bO, hbO⟩ : ∃ x, x = askOk ⟨opOf t, y0, y1, y2, y3, y4⟩ := ⟨_, rfl⟩
          rw [← hbT, ← hbO] at HO ⊢
          obtain ⟨cb, hcb⟩ : ∃ x, x = ck.b := ⟨_, rfl⟩
          rw [← hcb] at HO p2
          clear hbT hbO hcb HX4 HR4 HB4 AT
          cases cb with
          | true =>
            have HOf : Hid (O = false) := by show _ = _; rw [unhide HO]; rfl
            have HXf : Hid (X = AskI.zero) := by show _ = _; rw [unhide HV, unhide HOf]; rfl
            clear HO HV
            go_wp2_with fail
            obtain ⟨hbf, hkf⟩ := unhide HBS 0 0 0 0 0 0
            (try simp only [Exit.inBlock, Exit.then])
            refine bodyPost_ret (results_ask2 Try.results9 _ _ w.heap.size _ rfl hkf rfl) rfl ?_
            rw [unhide HOf, unhide HXf]
            exact ⟨rfl, hbf⟩
          | false =>
            cases bO with
            | false =>
              have HOf : Hid (O = false) := by show _ = _; rw [unhide HO]; rfl
              have HXf : Hid (X = AskI.zero) := by show _ = _; rw [unhide HV, unhide HOf]; rfl
              clear HO HV
              go_wp2_with fail
              obtain ⟨hbf, hkf⟩ := unhide HBS 0 0 0 0 0 0
              (try simp only [Exit.inBlock, Exit.then])
              refine bodyPost_ret (results_ask2 Try.results9 _ _ w.heap.size _ rfl hkf rfl) rfl ?_
              rw [unhide HOf, unhide HXf]
              exact ⟨rfl, hbf⟩
            | true =>
              by_cases hbt : bT = t
              · have HOf : Hid (O = true) := by show _ = _; rw [unhide HO]; simp [hbt]
                have HXf : Hid (X = ⟨opOf t, y0, y1, y2, y3, y4⟩) := by show _ = _; rw [unhide HV, unhide HOf]; rfl
                clear HO HV
                subst hbt
                go_wp2_with fail
                obtain ⟨hbf, hkf⟩ := unhide HBS (opOf bT) y0 y1 y2 y3 y4
                (try simp only [Exit.inBlock, Exit.then])
                refine bodyPost_ret (results_ask2 Try.results9 _ _ w.heap.size _ rfl hkf rfl) rfl ?_
                rw [unhide HOf, unhide HXf]
                exact ⟨rfl, hbf⟩
              · have HOf : Hid (O = false) := by show _ = _; rw [unhide HO]; simp [hbt]
                have HXf : Hid (X = AskI.zero) := by show _ = _; rw [unhide HV, unhide HOf]; rfl
                clear HO HV
                have hne : (bT.toList == t.toList) = false := by
                  rw [beq_eq_false_iff_ne]
                  intro h
                  rw [ByteArray.toList_eq, ByteArray.toList_eq] at h
                  exact hbt (ByteArray.ext (Array.toList_inj.1 h))
                have HBT := hide hbt
                clear hbt
                go_wp2_with fail
                obtain ⟨hbf, hkf⟩ := unhide HBS 0 0 0 0 0 0
                (try simp only [Exit.inBlock, Exit.then])
                refine bodyPost_ret (results_ask2 Try.results9 _ _ w.heap.size _ rfl hkf rfl) rfl ?_
                rw [unhide HOf, unhide HXf]
                exact ⟨rfl, hbf⟩
end Gr
end Go.Proofs.Ytabnghiphmongaa
