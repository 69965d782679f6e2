/-
 Lg13, Lg17.
-/
import Derived.Test.YtjblkijicfmkgaaGreatDoorJ41
import Derived.Test.YtjblkijicfmkgaaGreatDoorJ45
import Derived.Test.YtjblkijicfmkgaaGreatDoorJ35
import Derived.Test.YtjblkijicfmkgaaGreatDoorJ17
import Derived.Test.YtjblkijicfmkgaaGreatDoorJ39
import Derived.Test.YtjblkijicfmkgaaGreatDoorJ14
import Derived.Test.YtjblkijicfmkgaaGreatDoorJ33
namespace Go.Proofs.YtjblkijicfmkgaaGreatDoor
namespace Rg
open Go.RowKit
open Gr (Blk Kept)
def totC (x : TotI) : Array Value := #[.int .i64 x.R, .int .i64 x.P, .int .i64 x.H, .int .i64 x.L, .int .i64 x.S.W1, .int .i64 x.S.W2, .int .i64 x.S.W3]
def totZ : TotI := ⟨0, 0, 0, 0, ⟨0, 0, 0⟩⟩
theorem set7 {w : World} {g : Nat} {x0 x1 x2 x3 x4 x5 x6 y0 y1 y2 y3 y4 y5 y6 : Value} {t : TypeId} (h : Blk w g #[x0, x1, x2, x3, x4, x5, x6] t) : Blk (((((((w.setCell ⟨g, 0, none⟩ y0).setCell ⟨g, 1, none⟩ y1).setCell ⟨g, 2, none⟩ y2).setCell ⟨g, 3, none⟩ y3).setCell ⟨g, 4, none⟩ y4).setCell ⟨g, 5, none⟩ y5).setCell ⟨g, 6, none⟩ y6) g #[y0, y1, y2, y3, y4, y5, y6] t := by
  have h7 := ((((((h.set 0 y0).set 1 y1).set 2 y2).set 3 y3).set 4 y4).set 5 y5).set 6 y6
  simpa using h7
theorem kept7 (w : World) (g : Nat) (y0 y1 y2 y3 y4 y5 y6 : Value) : Kept (fun i => i = g) w (((((((w.setCell ⟨g, 0, none⟩ y0).setCell ⟨g, 1, none⟩ y1).setCell ⟨g, 2, none⟩ y2).setCell ⟨g, 3, none⟩ y3).setCell ⟨g, 4, none⟩ y4).setCell ⟨g, 5, none⟩ y5).setCell ⟨g, 6, none⟩ y6) :=
  Gr.Kept.trans (S := fun i => i = g) (kept5 w g y0 y1 y2 y3 y4) (Gr.Kept.trans (S := fun i => i = g) (Gr.Kept.set _ _ _ _ rfl) (Gr.Kept.set _ _ _ _ rfl))
theorem infoTot : (Tryz.prog.info? 27).map (·.size) = some 7 := by kernel_rfl
theorem infoTotF (x : TotI) : (Tryz.prog.info? 27).map (·.size) = some (totC x).size := infoTot
theorem infoTotL (x : TotI) : (Tryz.prog.info? 27).map (·.size) = some (totC x).toList.length := infoTot
theorem tot_one (x : TotI) : (totC x).all (·.oneCell') = true := by
  apply Array.all_eq_true_iff_forall_mem.2
  intro v hv
  unfold totC at hv
  simp only [List.mem_toArray, List.mem_cons, List.mem_nil_iff, or_false] at hv
  rcases hv with rfl | rfl | rfl | rfl | rfl | rfl | rfl <;> rfl
theorem tot_put {W : World} {g : Nat} {x y : TotI} (h : Blk W g (totC x) 27) : Blk (W.setCells g 0 (totC y).toList) g (totC y) 27 := by
  have h2 := Gr.Blk.many (totC y).toList 0 h
  rwa [Gr.setMany_all _ _ (show (totC x).size = (totC y).size from rfl)] at h2
theorem results_tot {fn : Func} {p : Tmp} (h : fn.results = #[.cell p 27]) (tmps : Array Value) (w : World) (g : Nat) (x : TotI) (hp : tmps.getD p undef = .pointer (some ⟨g, 0, none⟩)) (hg : Blk w g (totC x) 27) :
    (results fn tmps).run Tryz.prog w = .ok x.v w := by
  have c0 := hg.cell 0 _ rfl
  have c1 := hg.cell 1 _ rfl
  have c2 := hg.cell 2 _ rfl
  have c3 := hg.cell 3 _ rfl
  have c4 := hg.cell 4 _ rfl
  have c5 := hg.cell 5 _ rfl
  have c6 := hg.cell 6 _ rfl
  have hp' : tmps[p]?.getD undef = .pointer (some ⟨g, 0, none⟩) := by simpa using hp
  unfold TotI.v
  simp [results, h, hp', go_sem, c0, c1, c2, c3, c4, c5, c6, totC]
theorem results_tot2 {fn : Func} {p u : Tmp} (h : fn.results = #[.cell p 27, .tmp u]) (tmps : Array Value) (w : World) (g : Nat) (x : TotI) (hp : tmps.getD p undef = .pointer (some ⟨g, 0, none⟩)) (hg : Blk w g (totC x) 27) :
    (results fn tmps).run Tryz.prog w = .ok (.tuple #[x.v, tmps.getD u undef]) w := by
  have c0 := hg.cell 0 _ rfl
  have c1 := hg.cell 1 _ rfl
  have c2 := hg.cell 2 _ rfl
  have c3 := hg.cell 3 _ rfl
  have c4 := hg.cell 4 _ rfl
  have c5 := hg.cell 5 _ rfl
  have c6 := hg.cell 6 _ rfl
  have hp' : tmps[p]?.getD undef = .pointer (some ⟨g, 0, none⟩) := by simpa using hp
  unfold TotI.v
  simp [results, h, hp', go_sem, c0, c1, c2, c3, c4, c5, c6, totC]
theorem memTot_step (R : Rgs) (n : Nat) : memTot R (n + 1) = if (R.mem n).1 = 1 then { memTot R n with H := (memTot R n).H + 1 } else if (R.mem n).1 = 2 then { memTot R n with L := (memTot R n).L + 1 } else if (R.mem n).1 = 3 then { memTot R n with P := (memTot R n).P + 1 } else memTot R n := by
  unfold memTot
  rw [memN, memN, memN]
  by_cases h1 : (R.mem n).1 = 1
  · rw [if_pos h1, h1]; simp
  · rw [if_neg h1]
    by_cases h2 : (R.mem n).1 = 2
    · rw [if_pos h2, h2]; simp
    · rw [if_neg h2]
      by_cases h3 : (R.mem n).1 = 3
      · rw [if_pos h3, h3]; simp
      · rw [if_neg h3, if_neg h3, if_neg h1, if_neg h2]
def TB (x : TotI) (n : Int) : Prop := (0 ≤ x.R ∧ x.R ≤ n) ∧ (0 ≤ x.P ∧ x.P ≤ n) ∧ (0 ≤ x.H ∧ x.H ≤ n) ∧ (0 ≤ x.L ∧ x.L ≤ n)
theorem memTot_bound (R : Rgs) (n : Nat) : TB (memTot R n) (n : Int) := by
  have h1 := memN_le R 1 n
  have h2 := memN_le R 2 n
  have h3 := memN_le R 3 n
  unfold TB memTot
  simp only
  omega
def memA (R : Rgs) : Array Value := ((List.range 24).map (cellR R undef)).toArray
theorem memA_size (R : Rgs) : (memA R).size = 24 := by unfold memA; simp
theorem memA_at (R : Rgs) (v : Value) (i : Nat) (h : i < 24) : (regC R v)[0 + i]? = (memA R)[i]? := by
  rw [Nat.zero_add, regC_at _ _ _ (by omega)]
  unfold memA
  simp only [List.getElem?_toArray, List.getElem?_map, List.getElem?_range h, Option.map_some]
  unfold cellR
  rw [if_pos h, if_pos h]
theorem infoMemA : (Tryz.prog.info? 71).map (·.size) = some 24 := by kernel_rfl
theorem infoMemAL (R : Rgs) : (Tryz.prog.info? 71).map (·.size) = some (memA R).toList.length := by rw [Array.length_toList, memA_size]; exact infoMemA
theorem index_memA (R : Rgs) (W : World) : ∀ k : Nat, k < 12 → (Instr.index 71 (.agg (memA R)) (.int .i64 (k : Int))).run Tryz.prog W = .ok (.agg #[.int .i64 (((R.mem k).1 : Nat) : Int), .int .i64 (((R.mem k).2 : Nat) : Int)]) W
  | 0, _ => by kernel_rfl
  | 1, _ => by kernel_rfl
  | 2, _ => by kernel_rfl
  | 3, _ => by kernel_rfl
  | 4, _ => by kernel_rfl
  | 5, _ => by kernel_rfl
  | 6, _ => by kernel_rfl
  | 7, _ => by kernel_rfl
  | 8, _ => by kernel_rfl
  | 9, _ => by kernel_rfl
  | 10, _ => by kernel_rfl
  | 11, _ => by kernel_rfl
  | k + 12, h => absurd h (by omega)
set_option maxRecDepth 100000 in
set_option maxHeartbeats 2000000 in
theorem members_total (B g : Nat) (R : Rgs) (w : World) (hR : RegAt w B g R) (hg : g < w.heap.size) :
    Calls Tryz.prog 35 #[.pointer (some ⟨g, 0, none⟩)] w fun e w' => e = .returned (memTot R 12).v ∧ Below w.heap.size w w' := by
  obtain ⟨_, v, vs, hk, _⟩ := hR
  have HP0 : Hid (∀ W, Below w.heap.size w W → W.rangeAt g 0 (memA R).toList) := fun W hb => Gr.Blk.part ((hb.block g hg).trans hk : Blk W g _ _) 0 (memA R) (fun j hj => memA_at R v j (by rw [memA_size] at hj; exact hj))
  have hiM := hide (infoMemAL R)
  have HIX := hide (index_memA R)
  have HST := hide (memTot_step R)
  have HTB := hide (memTot_bound R)
  obtain ⟨f, hf⟩ : ∃ f, f = memTot R := ⟨_, rfl⟩
  have H0 : Hid (f 0 = totZ) := by show _ = _; rw [hf]; rfl
  rw [← hf] at HST HTB ⊢
  obtain ⟨T, hT⟩ : ∃ T, T = f 12 := ⟨_, rfl⟩
  rw [← hT]
  have HTE := hide hT
  obtain ⟨C, hC⟩ : ∃ C, C = memA R := ⟨_, rfl⟩
  rw [← hC] at HP0 hiM HIX
  clear hC hk hf hT
  go_enter Tryz.func35, Tryz.ntmps35
  obtain ⟨V2, hV2⟩ : ∃ W, W = (w.alloc (Obj.cells #[Value.int .i64 0, Value.int .i64 0, Value.int .i64 0, Value.int .i64 0, Value.int .i64 0, Value.int .i64 0, Value.int .i64 0] 27)).alloc (Obj.cells #[Value.int .i64 0, Value.int .i64 0, Value.int .i64 0, Value.int .i64 0, Value.int .i64 0, Value.int .i64 0, Value.int .i64 0] 27) := ⟨_, rfl⟩
  have b2 : Below w.heap.size w V2 := by rw [hV2]; exact (Gr.below_new _ _).alloc (by simp) _
  have HR2 : Hid (Blk V2 w.heap.size (totC totZ) 27) := by show Blk _ _ _ _; rw [hV2]; exact Gr.Blk.new0.alloc
  have HT2 : Hid (Blk V2 (w.heap.size + 1) (totC (f 0)) 27) := by show Blk _ _ _ _; rw [unhide H0, hV2]; exact Gr.Blk.new1
  have hrg := hide (unhide HP0 V2 b2)
  rw [hV2] at hrg
  go_wp2_with (refine wpList_load_mid rfl 71 _ rfl g 0 rfl C.toList _ (unhide hrg) Tryz.underlying71 rfl (unhide hiM) ?_)
  rw [← hV2]
  clear hV2 H0 hrg
  go_loopw [10] (fun i wr => ∃ j : Nat, i = .int .i64 (j : Int) ∧ j ≤ 12 ∧ Hid (Blk wr (w.heap.size + 1) (totC (f j)) 27) ∧ Hid (Blk wr w.heap.size (totC totZ) 27) ∧ Below w.heap.size w wr) (fun i _ => 12 - (intOf i).toNat)
  case atStart => exact ⟨0, rfl, Nat.zero_le _, HT2, HR2, b2⟩
  case round =>
    obtain ⟨j, rfl, hj, HT, HR, hb⟩ := hrel
    by_cases hlt : j < 12
    · have hji : (j : Int) < 12 := by omega
      have hix := fun W => unhide HIX W j hlt
      have hst := unhide HST j
      have htb := unhide HTB j
      obtain ⟨m1, hm1⟩ : ∃ m : Int, m = (((R.mem j).1 : Nat) : Int) := ⟨_, rfl⟩
      obtain ⟨m2, hm2⟩ : ∃ m : Int, m = (((R.mem j).2 : Nat) : Int) := ⟨_, rfl⟩
      rw [← hm1, ← hm2] at hix
      generalize f j = x at HT hst htb
      have hgt : w.heap.size + 1 < wr.heap.size := (unhide HT).lt
      unfold TB at htb
      have q1 : wr.cell? ⟨w.heap.size + 1, 1, none⟩ = some (.int .i64 x.P) := (unhide HT).cell 1 _ rfl
      have q2 : wr.cell? ⟨w.heap.size + 1, 2, none⟩ = some (.int .i64 x.H) := (unhide HT).cell 2 _ rfl
      have q3 : wr.cell? ⟨w.heap.size + 1, 3, none⟩ = some (.int .i64 x.L) := (unhide HT).cell 3 _ rfl
      have z1 := (unhide HT).froz 1
      have z2 := (unhide HT).froz 2
      have z3 := (unhide HT).froz 3
      have HSET : Hid (∀ (k : Nat) (v : Value) (y : TotI), (totC x).setIfInBounds k v = totC y → ∀ o, Blk ((wr.setCell ⟨w.heap.size + 1, k, none⟩ v).alloc o) (w.heap.size + 1) (totC y) 27 ∧ Blk ((wr.setCell ⟨w.heap.size + 1, k, none⟩ v).alloc o) w.heap.size (totC totZ) 27 ∧ Below w.heap.size w ((wr.setCell ⟨w.heap.size + 1, k, none⟩ v).alloc o)) := fun k v y hy o => by
        refine ⟨?_, ((unhide HR).set_other (by omega) k _).alloc, ?_⟩
        · rw [← hy]
          exact ((unhide HT).set k _).alloc
        · have h := hb.setCell (p := ⟨w.heap.size + 1, k, none⟩) (by simp) v
          exact h.alloc h.size _
      have HSAME : Hid (∀ o, Blk (wr.alloc o) (w.heap.size + 1) (totC x) 27 ∧ Blk (wr.alloc o) w.heap.size (totC totZ) 27 ∧ Below w.heap.size w (wr.alloc o)) := fun o => ⟨(unhide HT).alloc, (unhide HR).alloc, hb.alloc hb.size _⟩
      have HSTJ := hide hst
      have HM1 := hide hm1
      clear hst hm1 hm2
      by_cases e1 : m1 = 1
      · have hf1 : f (j + 1) = { x with H := x.H + 1 } := by rw [unhide HSTJ, if_pos (by have := unhide HM1; omega)]
        subst e1
        clear HSTJ HM1 HSAME HT HR hb
        go_wp2_with fail
        obtain ⟨x1, x2, x3⟩ := unhide HSET 2 (.int .i64 (x.H + 1)) { x with H := x.H + 1 } rfl _
        rw [← hf1] at x1
        exact ⟨⟨j + 1, by go_num, by omega, x1, x2, x3⟩, by simp [intOf]; omega⟩
      · have n1 : (m1 == 1) = false := by simp [e1]
        by_cases e2 : m1 = 2
        · have hf1 : f (j + 1) = { x with L := x.L + 1 } := by rw [unhide HSTJ, if_neg (by have := unhide HM1; omega), if_pos (by have := unhide HM1; omega)]
          subst e2
          clear HSTJ HM1 HSAME HT HR hb e1
          go_wp2_with fail
          obtain ⟨x1, x2, x3⟩ := unhide HSET 3 (.int .i64 (x.L + 1)) { x with L := x.L + 1 } rfl _
          rw [← hf1] at x1
          exact ⟨⟨j + 1, by go_num, by omega, x1, x2, x3⟩, by simp [intOf]; omega⟩
        · have n2 : (m1 == 2) = false := by simp [e2]
          by_cases e3 : m1 = 3
          · have hf1 : f (j + 1) = { x with P := x.P + 1 } := by rw [unhide HSTJ, if_neg (by have := unhide HM1; omega), if_neg (by have := unhide HM1; omega), if_pos (by have := unhide HM1; omega)]
            subst e3
            clear HSTJ HM1 HSAME HT HR hb e1 e2
            go_wp2_with fail
            obtain ⟨x1, x2, x3⟩ := unhide HSET 1 (.int .i64 (x.P + 1)) { x with P := x.P + 1 } rfl _
            rw [← hf1] at x1
            exact ⟨⟨j + 1, by go_num, by omega, x1, x2, x3⟩, by simp [intOf]; omega⟩
          · have n3 : (m1 == 3) = false := by simp [e3]
            have hf1 : f (j + 1) = x := by rw [unhide HSTJ, if_neg (by have := unhide HM1; omega), if_neg (by have := unhide HM1; omega), if_neg (by have := unhide HM1; omega)]
            clear HSTJ HM1 HSET HT HR hb e1 e2 e3
            go_wp2_with fail
            obtain ⟨x1, x2, x3⟩ := unhide HSAME _
            rw [← hf1] at x1
            exact ⟨⟨j + 1, by go_num, by omega, x1, x2, x3⟩, by simp [intOf]; omega⟩
    · obtain rfl : j = 12 := by omega
      rw [← unhide HTE] at HT
      have hT := unhide HT
      have HR1 := hide hT.range
      have HR5 : Hid (wr.there w.heap.size 0 (totC T).size) := (unhide HR).there 0 _ (Nat.le_refl 7)
      have hi1 := hide (infoTotL T)
      have hi2 := hide (infoTotF T)
      have h1 := hide (tot_one T)
      have HF := hide (tot_put (y := T) (unhide HR))
      have HB := hide (Gr.below_setCells w.heap.size w.heap.size (Nat.le_refl w.heap.size) (totC T).toList 0 wr w hb)
      generalize hC : totC T = D at HR1 HR5 hi1 hi2 h1
      have HCE := hide hC
      clear hC HT HR hT hb
      go_wp2_with (first
        | refine wpList_load_mid rfl 27 _ rfl (w.heap.size + 1) 0 rfl D.toList _ (unhide HR1) Tryz.underlying27 rfl (unhide hi1) ?_
        | refine wpList_store_mid rfl 27 _ _ rfl w.heap.size 0 D rfl rfl (unhide HR5) (unhide hi2) (unhide h1) ?_)
      have hc := unhide HCE
      subst hc
      (try simp only [Exit.inBlock, Exit.then])
      refine bodyPost_ret (results_tot Tryz.results35 _ _ w.heap.size T rfl (unhide HF)) rfl ?_
      exact ⟨rfl, unhide HB⟩
def totAt (Q : PL) (p : Int) (n : Nat) : TotI := ⟨(rnds Q : Int), p, ((idsP [97] Q).length : Int), ((idsP [108] Q).length : Int), sumQ Q n⟩
theorem word_a : (ByteArray.mk #[97]).toList = [97] := by rw [ByteArray.toList_eq]
theorem word_l : (ByteArray.mk #[108]).toList = [108] := by rw [ByteArray.toList_eq]
theorem wrap_small (x : Int) (h0 : -1000 ≤ x) (h1 : x ≤ 1000) : IntKind.i64.wrap x = x := by
  have e : IntKind.i64.wrap x = if (9223372036854775808 : Int) ≤ x % 18446744073709551616 then x % 18446744073709551616 - 18446744073709551616 else x % 18446744073709551616 := by
    simp [IntKind.wrap, IntKind.signed, IntKind.bits]
  rw [e]
  split <;> omega
set_option maxRecDepth 100000 in
set_option maxHeartbeats 2000000 in
theorem specTotals_any (a : Option Addr) (len cap B : Nat) (Q : PL) (hlen : len ≤ 1048576) (w : World) (hB : B ≤ w.heap.size) (hs : Tr.PairsAt w a len B Q) :
    Calls Tryz.prog 9 #[.slice a len cap] w fun e w' => e = .returned (.tuple #[(totV Q).v, .bool (stateOk Q)]) ∧ Below w.heap.size w w' := by
  have SO := hide (fun w1 (hb : Below w.heap.size w w1) => state_any a len cap B Q hlen w1 (by have := hb.size; omega) (hs.below hb hB))
  obtain ⟨V1, hV1⟩ : ∃ W, W = w.alloc (Obj.cells #[Value.int .i64 0, Value.int .i64 0, Value.int .i64 0, Value.int .i64 0, Value.int .i64 0, Value.int .i64 0, Value.int .i64 0] 27) := ⟨_, rfl⟩
  have b1 : Below w.heap.size w V1 := by rw [hV1]; exact Gr.below_new _ _
  have HZ1 : Hid (Blk V1 w.heap.size (totC totZ) 27) := by show Blk _ _ _ _; rw [hV1]; exact Gr.Blk.new0
  obtain ⟨T, hT⟩ : ∃ T, T = totV Q := ⟨_, rfl⟩
  rw [← hT]
  cases hst : stateOk Q with
  | false =>
    rw [hst] at SO
    have hTe : T = totZ := by rw [hT]; unfold totV; rw [hst]; rfl
    subst hTe
    clear hs hst hT
    go_enter Tryz.func9, Tryz.ntmps9
    go_wp2_with fail
    rw [← hV1]
    clear hV1
    refine (unhide SO V1 b1).mono ?_
    rintro e w2 ⟨rfl, hb2⟩
    have Z2 := (unhide HZ1).below hb2
    have b2 := b1.trans (hb2.mono b1.size)
    have r0 : w2.cell? ⟨w.heap.size, 0, none⟩ = some (.int .i64 0) := Z2.cell 0 _ rfl
    have r1 : w2.cell? ⟨w.heap.size, 1, none⟩ = some (.int .i64 0) := Z2.cell 1 _ rfl
    have r2 : w2.cell? ⟨w.heap.size, 2, none⟩ = some (.int .i64 0) := Z2.cell 2 _ rfl
    have r3 : w2.cell? ⟨w.heap.size, 3, none⟩ = some (.int .i64 0) := Z2.cell 3 _ rfl
    have r4 : w2.cell? ⟨w.heap.size, 4, none⟩ = some (.int .i64 0) := Z2.cell 4 _ rfl
    have r5 : w2.cell? ⟨w.heap.size, 5, none⟩ = some (.int .i64 0) := Z2.cell 5 _ rfl
    have r6 : w2.cell? ⟨w.heap.size, 6, none⟩ = some (.int .i64 0) := Z2.cell 6 _ rfl
    have z0 := Z2.froz 0
    have z1 := Z2.froz 1
    have z2 := Z2.froz 2
    have z3 := Z2.froz 3
    have z4 := Z2.froz 4
    have z5 := Z2.froz 5
    have z6 := Z2.froz 6
    have HF : Hid (Blk _ w.heap.size (totC totZ) 27) := set7 (y0 := .int .i64 0) (y1 := .int .i64 0) (y2 := .int .i64 0) (y3 := .int .i64 0) (y4 := .int .i64 0) (y5 := .int .i64 0) (y6 := .int .i64 0) Z2
    have HB := hide (b2.trans ((kept7 w2 w.heap.size (.int .i64 0) (.int .i64 0) (.int .i64 0) (.int .i64 0) (.int .i64 0) (.int .i64 0) (.int .i64 0)).below b2.size (fun i hi => by omega)))
    clear Z2 b2 hb2 b1 HZ1 SO
    go_wp2_with fail
    (try simp only [Exit.inBlock, Exit.then])
    refine bodyPost_ret (results_tot2 Tryz.results9 _ _ w.heap.size totZ rfl (unhide HF)) rfl ?_
    exact ⟨rfl, unhide HB⟩
  | true =>
    rw [hst] at SO
    obtain ⟨hM, h6⟩ := state_map hst
    have hQ120 := hM.1
    have hL := hs.1
    have hkk : ∀ q ∈ Q, 1 ≤ q.1.size ∧ q.1.size ≤ 8 := fun q hq => ⟨(map_pair hM q hq).1, (map_pair hM q hq).2.1⟩
    have II := hide (fun w1 (hb : Below w.heap.size w w1) => ids_all a len cap B Q hlen hkk w1 (by have := hb.size; omega) (hs.below hb hB))
    have I1 := hide (fun w1 (hb : Below w.heap.size w w1) => ids_word a len cap B Q ⟨#[97]⟩ (by rw [word_a]; simp) hlen hkk w1 (by have := hb.size; omega) (hs.below hb hB))
    have I2 := hide (fun w1 (hb : Below w.heap.size w w1) => ids_word a len cap B Q ⟨#[108]⟩ (by rw [word_l]; simp) hlen hkk w1 (by have := hb.size; omega) (hs.below hb hB))
    rw [word_a] at I1
    rw [word_l] at I2
    have RN := hide (fun w1 (hb : Below w.heap.size w w1) => rounds_any a len cap B Q (by omega) w1 (by have := hb.size; omega) (hs.below hb hB))
    have RO := hide (fun r w1 (hb : Below w.heap.size w w1) => specRound_any a len cap B Q r hlen w1 (by have := hb.size; omega) (hs.below hb hB))
    have n1 : (idsP [97] Q).length ≤ 120 := Nat.le_trans (ids_short [97] Q) hQ120
    have n2 : (idsP [108] Q).length ≤ 120 := Nat.le_trans (ids_short [108] Q) hQ120
    have n0 : (idsP [] Q).length ≤ 120 := Nat.le_trans (ids_short [] Q) hQ120
    have hTT : T = totAt Q (((idsP [] Q).length : Int) - ((idsP [97] Q).length : Int) - ((idsP [108] Q).length : Int)) (rnds Q) := by rw [hT]; unfold totV totAt; rw [if_pos hst]
    have HRM := hide (fun r (h : r < rnds Q) => round_map hst r h)
    have HRO := hide (fun r (h : r < rnds Q) => roOk_at hst h)
    have HSB := hide (fun r h => sumQ_bound hst r h)
    have HSS : Hid (∀ j, sumQ Q (j + 1) = plusS (sumQ Q j) (Gr.sums (Gr.rcV (textP Q j)).Q (Gr.rcV (textP Q j)).M)) := fun j => rfl
    have HTA : Hid (∀ p j, totAt Q p j = ⟨(rnds Q : Int), p, ((idsP [97] Q).length : Int), ((idsP [108] Q).length : Int), sumQ Q j⟩) := fun p j => rfl
    generalize idsP [97] Q = A1 at I1 n1 hTT HTA
    generalize idsP [108] Q = A2 at I2 n2 hTT HTA
    generalize idsP [] Q = A0 at II n0 hTT
    clear hs hst hT hM hQ120 hL hkk
    go_enter Tryz.func9, Tryz.ntmps9
    go_wp2_with fail
    rw [← hV1]
    clear hV1
    refine (unhide SO V1 b1).mono ?_
    rintro e w2 ⟨rfl, hb2⟩
    have Z2 := (unhide HZ1).below hb2
    have b2 := b1.trans (hb2.mono b1.size)
    clear hb2 b1 HZ1 SO
    go_wp2_with fail
    refine (unhide RN w2 b2).mono ?_
    rintro e w3 ⟨rfl, hb3⟩
    have Z3 := Z2.below hb3
    have b3 := b2.trans (hb3.mono b2.size)
    clear hb3 b2 Z2 RN
    generalize rnds Q = n at *
    go_wp2_with fail
    refine (unhide I1 w3 b3).mono ?_
    rintro e w4 ⟨⟨d4, rfl, ho4⟩, hb4⟩
    obtain ⟨e4, k4, rfl⟩ := (show ∃ A c, d4 = .slice A A1.length c from by rcases ho4.2 with ⟨rfl, h0⟩ | ⟨g, cap, cur, rfl, _⟩; exact ⟨none, 0, by rw [h0]⟩; exact ⟨_, _, rfl⟩)
    have Z4 := Z3.below hb4
    have b4 := b3.trans (hb4.mono b3.size)
    clear hb4 b3 Z3 I1 ho4
    go_wp2_with fail
    refine (unhide I2 w4 b4).mono ?_
    rintro e w5 ⟨⟨d5, rfl, ho5⟩, hb5⟩
    obtain ⟨e5, k5, rfl⟩ := (show ∃ A c, d5 = .slice A A2.length c from by rcases ho5.2 with ⟨rfl, h0⟩ | ⟨g, cap, cur, rfl, _⟩; exact ⟨none, 0, by rw [h0]⟩; exact ⟨_, _, rfl⟩)
    have Z5 := Z4.below hb5
    have b5 := b4.trans (hb5.mono b4.size)
    clear hb5 b4 Z4 I2 ho5
    obtain ⟨W6, hW6⟩ : ∃ W, W = w5.alloc (Obj.cells #[Value.int .i64 (n : Int), Value.int .i64 0, Value.int .i64 (A1.length : Int), Value.int .i64 (A2.length : Int), Value.int .i64 0, Value.int .i64 0, Value.int .i64 0] 27) := ⟨_, rfl⟩
    have n6 : Below w5.heap.size w5 W6 := by rw [hW6]; exact Gr.below_new _ _
    have X6 : Blk W6 w5.heap.size #[Value.int .i64 (n : Int), Value.int .i64 0, Value.int .i64 (A1.length : Int), Value.int .i64 (A2.length : Int), Value.int .i64 0, Value.int .i64 0, Value.int .i64 0] 27 := by rw [hW6]; exact Gr.Blk.new0
    have Z6 := Z5.below n6
    have b6 := b5.trans (n6.mono b5.size)
    have hzz := Z5.lt
    clear Z5 b5 n6
    go_wp2_with fail
    rw [← hW6]
    clear hW6
    generalize w5.heap.size = g at *
    have wr1 : IntKind.i64.wrap ((A0.length : Int) - (A1.length : Int)) = (A0.length : Int) - (A1.length : Int) := wrap_small _ (by omega) (by omega)
    have wr2 : IntKind.i64.wrap ((A0.length : Int) - (A1.length : Int) - (A2.length : Int)) = (A0.length : Int) - (A1.length : Int) - (A2.length : Int) := wrap_small _ (by omega) (by omega)
    have q2 : W6.cell? ⟨g, 2, none⟩ = some (.int .i64 (A1.length : Int)) := X6.cell 2 _ rfl
    have q3 : W6.cell? ⟨g, 3, none⟩ = some (.int .i64 (A2.length : Int)) := X6.cell 3 _ rfl
    have HX6 := hide X6
    have HZ6 := hide Z6
    have HB6 := hide b6
    have hgl := X6.lt
    clear X6 Z6 b6
    go_region_held3 (fun u => u.cell? ⟨g, 2, none⟩ = some (.int .i64 (A1.length : Int)) ∧ u.cell? ⟨g, 3, none⟩ = some (.int .i64 (A2.length : Int)))
      (first | go_keep | with_reducible exact ⟨j0, j1⟩ | with_reducible exact ⟨i0, i1⟩)
      (first
        | (go_at_call 29; refine (unhide II W6.drew (unhide HB6).drew).mono ?_; rintro e w7 ⟨⟨d7, rfl, ho7⟩, hb7⟩; obtain ⟨e7, k7, rfl⟩ := row_shape0 ho7; have B7 := hide ((Below.refl W6.heap.size W6).drew.trans hb7); have X7 := (unhide HX6).below (unhide B7); have j0 : w7.cell? ⟨g, 2, none⟩ = some (.int .i64 (A1.length : Int)) := X7.cell 2 _ rfl; have j1 : w7.cell? ⟨g, 3, none⟩ = some (.int .i64 (A2.length : Int)) := X7.cell 3 _ rfl; have y1 : w7.cell? ⟨g, 1, none⟩ = some (.int .i64 0) := X7.cell 1 _ rfl; have f1 := X7.froz 1; have X8 := X7.set 1 (.int .i64 ((A0.length : Int) - (A1.length : Int) - (A2.length : Int))); have i0 : (w7.setCell ⟨g, 1, none⟩ (.int .i64 ((A0.length : Int) - (A1.length : Int) - (A2.length : Int)))).cell? ⟨g, 2, none⟩ = some (.int .i64 (A1.length : Int)) := X8.cell 2 _ rfl; have i1 : (w7.setCell ⟨g, 1, none⟩ (.int .i64 ((A0.length : Int) - (A1.length : Int) - (A2.length : Int)))).cell? ⟨g, 3, none⟩ = some (.int .i64 (A2.length : Int)) := X8.cell 3 _ rfl))
    obtain ⟨p, hp⟩ : ∃ p : Int, p = (A0.length : Int) - (A1.length : Int) - (A2.length : Int) := ⟨_, rfl⟩
    rw [← hp] at X8 hTT ⊢
    have hpb : -1000 ≤ p ∧ p ≤ 1000 := by omega
    rw [unhide HTA] at hTT
    have HX8 : Hid (Blk (w7.setCell ⟨g, 1, none⟩ (.int .i64 p)) g (totC ⟨(n : Int), p, (A1.length : Int), (A2.length : Int), sumQ Q 0⟩) 27) := X8
    have HZ8 : Hid (Blk (w7.setCell ⟨g, 1, none⟩ (.int .i64 p)) w.heap.size (totC totZ) 27) := ((unhide HZ6).below (unhide B7)).set_other (by omega) 1 _
    have b7 := (unhide HB6).trans ((unhide B7).mono (unhide HB6).size)
    have HB8 := hide (b7.setCell (p := ⟨g, 1, none⟩) (by simp; omega) (.int .i64 p))
    have hwg : w.heap.size < g := hzz
    have hne1 : ¬ g = w.heap.size := by omega
    have hne2 : ¬ w.heap.size = g := by omega
    have HTT := hide hTT
    clear X7 X8 b7 B7 HX6 HZ6 HB6 hb7 ho7 j0 j1 i0 i1 y1 f1 q2 q3 wr1 wr2 II hTT HTA hp
    generalize w7.setCell ⟨g, 1, none⟩ (.int .i64 p) = w8 at HX8 HZ8 HB8 ⊢
    go_wp2_with fail
    go_loopw [5] (fun iv wr => ∃ j : Nat, iv = .int .i64 (j : Int) ∧ j ≤ n ∧ Hid (Blk wr g (totC ⟨(n : Int), p, (A1.length : Int), (A2.length : Int), sumQ Q j⟩) 27) ∧ Hid (Blk wr w.heap.size (totC totZ) 27) ∧ Below w.heap.size w wr) (fun iv _ => n - (intOf iv).toNat)
    case atStart => exact ⟨0, rfl, Nat.zero_le _, unhide HX8, unhide HZ8, unhide HB8⟩
    case round =>
      obtain ⟨j, rfl, hj, HX, HZ, hb⟩ := hrel
      clear HX8 HZ8 HB8
      have c0 : wr.cell? ⟨g, 0, none⟩ = some (.int .i64 (n : Int)) := (unhide HX).cell 0 _ rfl
      by_cases hlt : j < n
      · have hj1 : (j : Int) < (n : Int) := by omega
        obtain ⟨o1, o2, o3⟩ := unhide HRO j hlt
        have hg := unhide HRM j hlt
        have hsb := unhide HSB j (by omega)
        have hss := unhide HSS j
        have hsy := hg.sums
        have ROj := unhide RO (j : Int) wr hb
        rw [o1, o3] at ROj
        have HROJ := hide ROj
        have hmok := hg.mok
        obtain ⟨l1, l2, _⟩ := Gr.csize_le hg.small
        generalize sumQ Q j = S at HX hsb hss
        generalize Gr.rcV (textP Q j) = C at hss hsy HROJ hmok l1 l2
        have HS2 := hide hss
        clear ROj o1 o2 o3 hg hss
        go_wp2_with fail
        refine (unhide HROJ).mono ?_
        rintro e w9 ⟨⟨d, cv, rfl, hd, hcv⟩, hb9⟩
        obtain ⟨a0', k0', hd'⟩ := row_shape0 (show w9.ownsRow wr.heap.size 3 1 d (roP Q (j : Int)).length (Gr.intsV (roP Q (j : Int))) from hd)
        subst hd'
        obtain ⟨a1, k1, a2, k2, a3, k3, a4, k4, rfl, hgr, hco, _⟩ := hcv
        have X9 := (unhide HX).below hb9
        have Z9 := (unhide HZ).below hb9
        have b9 := hb.trans (hb9.mono hb.size)
        obtain ⟨W10, hW10⟩ : ∃ W, W = w9.alloc (Obj.cells #[Value.int .i64 C.s, Value.slice a1 C.Q.length k1, Value.slice a2 C.M.length k2, Value.slice a3 C.Y.length k3, Value.slice a4 C.G.length k4] 59) := ⟨_, rfl⟩
        have n10 : Below w9.heap.size w9 W10 := by rw [hW10]; exact Gr.below_new _ _
        have x10 : Blk W10 w9.heap.size #[Value.int .i64 C.s, Value.slice a1 C.Q.length k1, Value.slice a2 C.M.length k2, Value.slice a3 C.Y.length k3, Value.slice a4 C.G.length k4] 59 := by rw [hW10]; exact Gr.Blk.new0
        have q0 : W10.cell? ⟨w9.heap.size, 0, none⟩ = some (Value.int .i64 C.s) := x10.cell 0 _ rfl
        have q1 : W10.cell? ⟨w9.heap.size, 1, none⟩ = some (Value.slice a1 C.Q.length k1) := x10.cell 1 _ rfl
        have q2 : W10.cell? ⟨w9.heap.size, 2, none⟩ = some (Value.slice a2 C.M.length k2) := x10.cell 2 _ rfl
        obtain ⟨am, cm, em, hMM⟩ := hco
        simp only [Value.slice.injEq, true_and] at em
        obtain ⟨rfl, rfl⟩ := em
        have SU := hide (Gr.specSums_any _ w9.heap.size C.s C.Q a2 C.M.length k2 C.M hmok l1 W10 n10.size (hgr.below n10 (Nat.le_refl _)) (hMM.below n10 (Nat.le_refl _)))
        have HX10 := hide (X9.below n10)
        have HZ10 := hide (Z9.below n10)
        have HB10 := hide (b9.trans (n10.mono b9.size))
        clear X9 Z9 b9 n10 x10 hb9 hd hgr hMM HX HZ hb HROJ
        rw [hW10] at q0 q1 q2
        go_wp2_with fail
        rw [← hW10]
        clear hW10 q0 q1 q2
        refine (unhide SU).mono ?_
        rintro e w11 ⟨rfl, hb11⟩
        have X11 := (unhide HX10).below hb11
        have Z11 := (unhide HZ10).below hb11
        have b11 := (unhide HB10).trans (hb11.mono (unhide HB10).size)
        generalize Gr.sums C.Q C.M = y at hsy HS2 ⊢
        unfold Gr.SumsI.v
        unfold Gr.SB at hsb hsy
        have hgl11 := X11.lt
        have X4 := X11.set 4 (.int .i64 (S.W1 + y.W1))
        have X5 := X4.set 5 (.int .i64 (S.W2 + y.W2))
        have X6 := X5.set 6 (.int .i64 (S.W3 + y.W3))
        have N4 : (w11.setCell ⟨g, 4, none⟩ (.int .i64 (S.W1 + y.W1))).heap.size = w11.heap.size := by simp [World.setCell]
        have N5 : ((w11.setCell ⟨g, 4, none⟩ (.int .i64 (S.W1 + y.W1))).setCell ⟨g, 5, none⟩ (.int .i64 (S.W2 + y.W2))).heap.size = w11.heap.size := by simp [World.setCell]
        have S0 : Blk (w11.alloc (Obj.cells #[Value.int .i64 y.W1, Value.int .i64 y.W2, Value.int .i64 y.W3] 25)) w11.heap.size #[Value.int .i64 y.W1, Value.int .i64 y.W2, Value.int .i64 y.W3] 25 := Gr.Blk.new0
        have S1 : Blk ((w11.setCell ⟨g, 4, none⟩ (.int .i64 (S.W1 + y.W1))).alloc (Obj.cells #[Value.int .i64 y.W1, Value.int .i64 y.W2, Value.int .i64 y.W3] 25)) w11.heap.size #[Value.int .i64 y.W1, Value.int .i64 y.W2, Value.int .i64 y.W3] 25 := by
          have h := Gr.Blk.new0 (W := (w11.setCell ⟨g, 4, none⟩ (.int .i64 (S.W1 + y.W1)))) (C := #[Value.int .i64 y.W1, Value.int .i64 y.W2, Value.int .i64 y.W3]) (t := 25)
          rwa [N4] at h
        have S2' : Blk (((w11.setCell ⟨g, 4, none⟩ (.int .i64 (S.W1 + y.W1))).setCell ⟨g, 5, none⟩ (.int .i64 (S.W2 + y.W2))).alloc (Obj.cells #[Value.int .i64 y.W1, Value.int .i64 y.W2, Value.int .i64 y.W3] 25)) w11.heap.size #[Value.int .i64 y.W1, Value.int .i64 y.W2, Value.int .i64 y.W3] 25 := by
          have h := Gr.Blk.new0 (W := ((w11.setCell ⟨g, 4, none⟩ (.int .i64 (S.W1 + y.W1))).setCell ⟨g, 5, none⟩ (.int .i64 (S.W2 + y.W2)))) (C := #[Value.int .i64 y.W1, Value.int .i64 y.W2, Value.int .i64 y.W3]) (t := 25)
          rwa [N5] at h
        have XA : Blk (w11.alloc (Obj.cells #[Value.int .i64 y.W1, Value.int .i64 y.W2, Value.int .i64 y.W3] 25)) g _ 27 := X11.alloc
        have XB : Blk ((w11.setCell ⟨g, 4, none⟩ (.int .i64 (S.W1 + y.W1))).alloc (Obj.cells #[Value.int .i64 y.W1, Value.int .i64 y.W2, Value.int .i64 y.W3] 25)) g _ 27 := X4.alloc
        have XC : Blk (((w11.setCell ⟨g, 4, none⟩ (.int .i64 (S.W1 + y.W1))).setCell ⟨g, 5, none⟩ (.int .i64 (S.W2 + y.W2))).alloc (Obj.cells #[Value.int .i64 y.W1, Value.int .i64 y.W2, Value.int .i64 y.W3] 25)) g _ 27 := X5.alloc
        have a4 : (w11.alloc (Obj.cells #[Value.int .i64 y.W1, Value.int .i64 y.W2, Value.int .i64 y.W3] 25)).cell? ⟨g, 4, none⟩ = some (.int .i64 S.W1) := XA.cell 4 _ rfl
        have z4 := XA.froz 4
        have s0 : (w11.alloc (Obj.cells #[Value.int .i64 y.W1, Value.int .i64 y.W2, Value.int .i64 y.W3] 25)).cell? ⟨w11.heap.size, 0, none⟩ = some (.int .i64 y.W1) := S0.cell 0 _ rfl
        have a5 : ((w11.setCell ⟨g, 4, none⟩ (.int .i64 (S.W1 + y.W1))).alloc (Obj.cells #[Value.int .i64 y.W1, Value.int .i64 y.W2, Value.int .i64 y.W3] 25)).cell? ⟨g, 5, none⟩ = some (.int .i64 S.W2) := XB.cell 5 _ rfl
        have z5 := XB.froz 5
        have s1 : ((w11.setCell ⟨g, 4, none⟩ (.int .i64 (S.W1 + y.W1))).alloc (Obj.cells #[Value.int .i64 y.W1, Value.int .i64 y.W2, Value.int .i64 y.W3] 25)).cell? ⟨w11.heap.size, 1, none⟩ = some (.int .i64 y.W2) := S1.cell 1 _ rfl
        have a6 : (((w11.setCell ⟨g, 4, none⟩ (.int .i64 (S.W1 + y.W1))).setCell ⟨g, 5, none⟩ (.int .i64 (S.W2 + y.W2))).alloc (Obj.cells #[Value.int .i64 y.W1, Value.int .i64 y.W2, Value.int .i64 y.W3] 25)).cell? ⟨g, 6, none⟩ = some (.int .i64 S.W3) := XC.cell 6 _ rfl
        have z6 := XC.froz 6
        have s2 : (((w11.setCell ⟨g, 4, none⟩ (.int .i64 (S.W1 + y.W1))).setCell ⟨g, 5, none⟩ (.int .i64 (S.W2 + y.W2))).alloc (Obj.cells #[Value.int .i64 y.W1, Value.int .i64 y.W2, Value.int .i64 y.W3] 25)).cell? ⟨w11.heap.size, 2, none⟩ = some (.int .i64 y.W3) := S2'.cell 2 _ rfl
        have HXn : Hid (Blk ((((w11.setCell ⟨g, 4, none⟩ (.int .i64 (S.W1 + y.W1))).setCell ⟨g, 5, none⟩ (.int .i64 (S.W2 + y.W2))).setCell ⟨g, 6, none⟩ (.int .i64 (S.W3 + y.W3))).alloc (Obj.cells #[Value.int .i64 y.W1, Value.int .i64 y.W2, Value.int .i64 y.W3] 25)) g (totC ⟨(n : Int), p, (A1.length : Int), (A2.length : Int), sumQ Q (j + 1)⟩) 27) := by
          show Blk _ _ _ _
          rw [unhide HS2]
          exact X6.alloc
        have HZn : Hid (Blk ((((w11.setCell ⟨g, 4, none⟩ (.int .i64 (S.W1 + y.W1))).setCell ⟨g, 5, none⟩ (.int .i64 (S.W2 + y.W2))).setCell ⟨g, 6, none⟩ (.int .i64 (S.W3 + y.W3))).alloc (Obj.cells #[Value.int .i64 y.W1, Value.int .i64 y.W2, Value.int .i64 y.W3] 25)) w.heap.size (totC totZ) 27) := (((Z11.set_other hne2 4 _).set_other hne2 5 _).set_other hne2 6 _).alloc
        have HBn : Hid (Below w.heap.size w ((((w11.setCell ⟨g, 4, none⟩ (.int .i64 (S.W1 + y.W1))).setCell ⟨g, 5, none⟩ (.int .i64 (S.W2 + y.W2))).setCell ⟨g, 6, none⟩ (.int .i64 (S.W3 + y.W3))).alloc (Obj.cells #[Value.int .i64 y.W1, Value.int .i64 y.W2, Value.int .i64 y.W3] 25))) := by
          have h := ((b11.setCell (p := ⟨g, 4, none⟩) (by simp; omega) (.int .i64 (S.W1 + y.W1))).setCell (p := ⟨g, 5, none⟩) (by simp; omega) (.int .i64 (S.W2 + y.W2))).setCell (p := ⟨g, 6, none⟩) (by simp; omega) (.int .i64 (S.W3 + y.W3))
          exact h.alloc h.size _
        clear X4 X5 X6 N4 N5 S0 S1 S2' XA XB XC X11 Z11 b11 hb11 HX10 HZ10 HB10 SU hmok HS2
        go_wp2_with fail
        exact ⟨⟨j + 1, by go_num, by omega, unhide HXn, unhide HZn, unhide HBn⟩, by simp [intOf]; omega⟩
      · obtain rfl : j = n := by omega
        have hX := unhide HX
        have hZ := unhide HZ
        have p0 : wr.cell? ⟨g, 0, none⟩ = some (.int .i64 (j : Int)) := hX.cell 0 _ rfl
        have p1 : wr.cell? ⟨g, 1, none⟩ = some (.int .i64 p) := hX.cell 1 _ rfl
        have p2 : wr.cell? ⟨g, 2, none⟩ = some (.int .i64 (A1.length : Int)) := hX.cell 2 _ rfl
        have p3 : wr.cell? ⟨g, 3, none⟩ = some (.int .i64 (A2.length : Int)) := hX.cell 3 _ rfl
        have p4 : wr.cell? ⟨g, 4, none⟩ = some (.int .i64 (sumQ Q j).W1) := hX.cell 4 _ rfl
        have p5 : wr.cell? ⟨g, 5, none⟩ = some (.int .i64 (sumQ Q j).W2) := hX.cell 5 _ rfl
        have p6 : wr.cell? ⟨g, 6, none⟩ = some (.int .i64 (sumQ Q j).W3) := hX.cell 6 _ rfl
        generalize sumQ Q j = S at *
        have r0 : wr.cell? ⟨w.heap.size, 0, none⟩ = some (.int .i64 0) := hZ.cell 0 _ rfl
        have r1 : wr.cell? ⟨w.heap.size, 1, none⟩ = some (.int .i64 0) := hZ.cell 1 _ rfl
        have r2 : wr.cell? ⟨w.heap.size, 2, none⟩ = some (.int .i64 0) := hZ.cell 2 _ rfl
        have r3 : wr.cell? ⟨w.heap.size, 3, none⟩ = some (.int .i64 0) := hZ.cell 3 _ rfl
        have r4 : wr.cell? ⟨w.heap.size, 4, none⟩ = some (.int .i64 0) := hZ.cell 4 _ rfl
        have r5 : wr.cell? ⟨w.heap.size, 5, none⟩ = some (.int .i64 0) := hZ.cell 5 _ rfl
        have r6 : wr.cell? ⟨w.heap.size, 6, none⟩ = some (.int .i64 0) := hZ.cell 6 _ rfl
        have z0 := hZ.froz 0
        have z1 := hZ.froz 1
        have z2 := hZ.froz 2
        have z3 := hZ.froz 3
        have z4 := hZ.froz 4
        have z5 := hZ.froz 5
        have z6 := hZ.froz 6
        have HF : Hid (Blk _ w.heap.size (totC ⟨(j : Int), p, (A1.length : Int), (A2.length : Int), S⟩) 27) := set7 (y0 := .int .i64 (j : Int)) (y1 := .int .i64 p) (y2 := .int .i64 (A1.length : Int)) (y3 := .int .i64 (A2.length : Int)) (y4 := .int .i64 S.W1) (y5 := .int .i64 S.W2) (y6 := .int .i64 S.W3) hZ
        have HB := hide (hb.trans ((kept7 wr w.heap.size (.int .i64 (j : Int)) (.int .i64 p) (.int .i64 (A1.length : Int)) (.int .i64 (A2.length : Int)) (.int .i64 S.W1) (.int .i64 S.W2) (.int .i64 S.W3)).below hb.size (fun i hi => by omega)))
        have hTe := unhide HTT
        subst hTe
        clear hX hZ HX HZ hb HTT c0
        go_wp2_with fail
        (try simp only [Exit.inBlock, Exit.then])
        refine bodyPost_ret (results_tot2 Tryz.results9 _ _ w.heap.size _ rfl (unhide HF)) rfl ?_
        exact ⟨rfl, unhide HB⟩
end Rg
end Go.Proofs.YtjblkijicfmkgaaGreatDoor
