/-
 SvR1.
-/
import Derived.Test.YtkjclkelnheheaaJ13
import Derived.Handy
import Derived.Laws.ResultCell
namespace Go.Proofs.Ytkjclkelnheheaa
namespace Sv
open Go.RowKit Gr
section
variable {w : World} {b lo : Nat} {aQ : Option Addr} {cQ s : Nat} {Q : List EdgeI} {y : List Int} {N : List Nd} {M : List Lk} {k : Int} {d : Bool} {vv : Vs}
set_option maxRecDepth 100000 in
set_option maxHeartbeats 1000000 in
theorem top_any (h : RunAt w b lo aQ cQ s Q y N M k d vv) (hU : Ups N) (hn : N.length ≤ 1000000) (v : Nat) (hv : v < N.length) :
    Calls Try.prog 73 #[.pointer (some ⟨b, 0, none⟩), .int .i64 (v : Int)] w fun e w' => e = .returned (.int .i64 (top N v : Int)) ∧ w' = w := by
  obtain ⟨g, c, _, _, _, q3, hc⟩ := h.node (by omega)
  have HC : Hid (∀ j, j < N.length → w.cell? ⟨g, j * 6 + 4, none⟩ = some (.int .i64 (upA N j))) := fun j hj => (hc j hj).2.2.2.2.1
  have HU := hide hU
  obtain ⟨n, hN⟩ : ∃ n, n = N.length := ⟨_, rfl⟩
  rw [← hN] at q3 hn hv
  have HN := hide hN
  clear hc h hU hN
  generalize hT : top N v = T
  have HT : Hid (T = top N v) := hT.symm
  clear hT
  go_enter Try.func73, Try.ntmps73
  go_wp2_with fail
  go_loop [1] (fun i => ∃ j : Nat, i = .int .i64 (j : Int) ∧ j < n ∧ Hid (T = top N j)) (fun i => n - (intOf i).toNat)
  case atStart => exact ⟨v, rfl, hv, unhide HT⟩
  case round =>
    obtain ⟨j, rfl, hj, HTj⟩ := hrel
    have hjN : j < N.length := by have := unhide HN; omega
    have cu := unhide HC j hjN
    have hx0 : (0 : Int) ≤ (j : Int) := by omega
    have hx1 : (j : Int) < (n : Int) := by omega
    by_cases hup : 0 ≤ upA N j
    · obtain ⟨t1, t2, t3⟩ := top_up (unhide HU) hjN hup
      obtain ⟨u, hu⟩ := Int.eq_ofNat_of_zero_le hup
      rw [hu] at cu t1 t2 t3
      rw [Int.toNat_natCast] at t1 t2 t3
      have HT2 : Hid (T = top N u) := by show _ = _; rw [unhide HTj, t1]
      have hul : u < n := by have := unhide HN; omega
      have hu0 : (0 : Int) ≤ (u : Int) := by omega
      clear hup hu t1
      go_wp2
      go_round
      case rel => exact ⟨u, rfl, hul, HT2⟩
      case measure => simp [intOf]; omega
    · have hT2 : T = j := by rw [unhide HTj, top_self (by omega)]
      subst hT2
      have hun : ¬ (0 : Int) ≤ upA N T := hup
      generalize upA N T = u at cu hun
      clear hup
      go_wp2
      go_ret
      exact ⟨rfl, rfl⟩
set_option maxRecDepth 100000 in
set_option maxHeartbeats 1000000 in
theorem win_any (h : RunAt w b lo aQ cQ s Q y N M k d vv) (hU : Ups N) (hn : N.length ≤ 1000000) (v x : Nat) (hv : v < N.length) :
    Calls Try.prog 58 #[.pointer (some ⟨b, 0, none⟩), .int .i64 (v : Int), .int .i64 (x : Int)] w fun e w' => e = .returned (.bool (win N v x)) ∧ w' = w := by
  obtain ⟨g, c, _, _, _, q3, hc⟩ := h.node (by omega)
  have HC : Hid (∀ j, j < N.length → w.cell? ⟨g, j * 6 + 4, none⟩ = some (.int .i64 (upA N j))) := fun j hj => (hc j hj).2.2.2.2.1
  have HU := hide hU
  obtain ⟨n, hN⟩ : ∃ n, n = N.length := ⟨_, rfl⟩
  rw [← hN] at q3 hn hv
  have HN := hide hN
  clear hc h hU hN
  generalize hT : win N v x = T
  have HT : Hid (T = win N v x) := hT.symm
  clear hT
  go_enter Try.func58, Try.ntmps58
  go_wp2_with fail
  go_loop [1] (fun i => (∃ j : Nat, i = .int .i64 (j : Int) ∧ j < n ∧ Hid (T = win N j x)) ∨ (∃ u : Int, i = .int .i64 u ∧ u < 0 ∧ T = false)) (fun i => cond (decide (0 ≤ intOf i)) (n + 1 - (intOf i).toNat) 0)
  case atStart => exact .inl ⟨v, rfl, hv, unhide HT⟩
  case round =>
    rcases hrel with ⟨j, rfl, hj, HTj⟩ | ⟨u, rfl, hu, hTf⟩
    · have hjN : j < N.length := by have := unhide HN; omega
      have cu := unhide HC j hjN
      have hx0 : (0 : Int) ≤ (j : Int) := by omega
      have hx1 : (j : Int) < (n : Int) := by omega
      by_cases hjx : j = x
      · have hT2 : T = true := by rw [unhide HTj, hjx]; exact win_self _ _
        subst hT2
        subst hjx
        have hq : ((j : Int) != (j : Int)) = false := by simp
        have hq2 : ((j : Int) == (j : Int)) = true := by simp
        go_wp2
        go_ret
        exact ⟨rfl, rfl⟩
      · have hq : ((j : Int) != (x : Int)) = true := by simp; omega
        by_cases hup : 0 ≤ upA N j
        · obtain ⟨_, t2, t3⟩ := top_up (unhide HU) hjN hup
          have t1 := win_up (unhide HU) hjN hup hjx
          obtain ⟨u, hu⟩ := Int.eq_ofNat_of_zero_le hup
          rw [hu] at cu t1 t2 t3
          rw [Int.toNat_natCast] at t1 t2 t3
          have HT2 : Hid (T = win N u x) := by show _ = _; rw [unhide HTj, t1]
          have hul : u < n := by have := unhide HN; omega
          clear hup hu t1
          go_wp2
          go_round
          case rel => exact .inl ⟨u, rfl, hul, HT2⟩
          case measure =>
            show cond (decide ((0 : Int) ≤ (u : Int))) (n + 1 - (u : Int).toNat) 0 < cond (decide ((0 : Int) ≤ (j : Int))) (n + 1 - (j : Int).toNat) 0
            rw [decide_eq_true (by omega : (0 : Int) ≤ (u : Int)), decide_eq_true (by omega : (0 : Int) ≤ (j : Int))]
            simp only [cond_true]
            omega
        · have hT2 : T = false := by rw [unhide HTj, win_no (by omega) hjx]
          have hun : upA N j < 0 := by omega
          generalize upA N j = u at cu hun
          clear hup
          go_wp2
          go_round
          case rel => exact .inr ⟨u, rfl, hun, hT2⟩
          case measure =>
            show cond (decide ((0 : Int) ≤ u)) (n + 1 - u.toNat) 0 < cond (decide ((0 : Int) ≤ (j : Int))) (n + 1 - (j : Int).toNat) 0
            rw [decide_eq_false (by omega : ¬ (0 : Int) ≤ u), decide_eq_true (by omega : (0 : Int) ≤ (j : Int))]
            simp only [cond_true, cond_false]
            omega
    · subst hTf
      have hu0 : ¬ (0 : Int) ≤ u := by omega
      have hq2 : (u == (x : Int)) = false := by simp; omega
      go_wp2
      go_ret
      exact ⟨rfl, rfl⟩
set_option maxRecDepth 100000 in
set_option maxHeartbeats 1000000 in
theorem isTop_any (h : RunAt w b lo aQ cQ s Q y N M k d vv) (hn : N.length ≤ 1000000) (v : Nat) (hv : v < N.length) :
    Calls Try.prog 37 #[.pointer (some ⟨b, 0, none⟩), .int .i64 (v : Int)] w fun e w' => e = .returned (.bool (!(nd N v).gone && decide (upA N v < 0))) ∧ w' = w := by
  obtain ⟨g, c, _, _, _, q3, hc⟩ := h.node (by omega)
  obtain ⟨_, _, _, _, c4, c5⟩ := hc v hv
  have hx0 : (0 : Int) ≤ (v : Int) := by omega
  have hx1 : (v : Int) < (N.length : Int) := by omega
  generalize N.length = n at q3 hx1 hn
  generalize upA N v = u at c4
  generalize (nd N v).gone = gn at c5
  clear hc h hv
  go_enter Try.func37, Try.ntmps37
  cases gn with
  | true =>
    go_wp2
    go_ret
    exact ⟨rfl, rfl⟩
  | false =>
    by_cases hu : u < 0
    · have hud : decide (u < 0) = true := by simp [hu]
      rw [hud]
      go_wp2
      go_ret
      exact ⟨rfl, rfl⟩
    · have hud : decide (u < 0) = false := by simp [hu]
      rw [hud]
      go_wp2
      go_ret
      exact ⟨rfl, rfl⟩
def least (a b : Int) : Int := if a < 0 ∨ b < a then b else a
theorem least_any (a b : Int) (w : World) :
    Calls Try.prog 83 #[.int .i64 a, .int .i64 b] w fun e w' => e = .returned (.int .i64 (least a b)) ∧ w' = w := by
  unfold least
  go_enter Try.func83, Try.ntmps83
  by_cases h1 : a < 0
  · rw [if_pos (.inl h1)]
    go_wp2
    go_ret
    exact ⟨rfl, rfl⟩
  · by_cases h2 : b < a
    · rw [if_pos (.inr h2)]
      go_wp2
      go_ret
      exact ⟨rfl, rfl⟩
    · rw [if_neg (by omega)]
      go_wp2
      go_ret
      exact ⟨rfl, rfl⟩
theorem results_mate {fn : Func} {p u : Tmp} {ty : TypeId} (h : fn.results = #[.cell p ty, .tmp u]) (tmps : Array Value) (P : Program) (w : World) (ad : Addr) (v : Value) (hp : tmps.getD p undef = .pointer (some ad)) (hl : (loadVar ty ad).run P w = .ok v w) :
    (results fn tmps).run P w = .ok (.tuple #[v, tmps.getD u undef]) w := by
  have hp' : tmps[p]?.getD undef = .pointer (some ad) := by simpa using hp
  simp [results, h, hp', asAddr, hl]
theorem load_link {W : World} {g : Nat} {a b : Value} (h : Blk W g #[a, b] 83) : (loadVar 83 ⟨g, 0, none⟩).run Try.prog W = .ok (.agg #[a, b]) W :=
  run_loadVar_row (P := Try.prog) W g 83 83 #[a, b] (0, 0) _ h Try.underlying83 rfl (by kernel_rfl)
def lkA (x : Lk) : Value := .agg #[.int .i64 (x.f : Int), .int .i64 (x.t : Int)]
def mateV (N : List Nd) (M : List Lk) (p : Nat) : Value × Bool := match mateOf N M p with | some m => (lkA m, true) | none => (lkA ⟨0, 0⟩, false)
theorem mate_step (N : List Nd) (x : Lk) (r : List Lk) (p : Nat) : mateV N (x :: r) p = if top N x.f = p then (lkA x, true) else if top N x.t = p then (lkA x.flip, true) else mateV N r p := by
  unfold mateV
  rw [mateOf]
  split
  · rename_i h
    split at h
    · rename_i h1; obtain rfl := Option.some.inj h; rw [if_pos h1]
    · rename_i h1
      rw [if_neg h1]
      split at h
      · rename_i h2; obtain rfl := Option.some.inj h; rw [if_pos h2]
      · rename_i h2; rw [if_neg h2, h]
  · rename_i h
    split at h
    · cases h
    · rename_i h1
      rw [if_neg h1]
      split at h
      · cases h
      · rename_i h2; rw [if_neg h2, h]
theorem lk_cells {w : World} {B : Nat} {v : Value} {M : List Lk} (h : LkOwn w B v M) (hM : 0 < M.length) : ∃ g c, v = .slice (some ⟨g, 0, none⟩) M.length c ∧ g < w.heap.size ∧ ∀ j (hj : j < M.length), w.cell? ⟨g, j * 2, none⟩ = some (.int .i64 (M[j].f : Int)) ∧ w.cell? ⟨g, j * 2 + 1, none⟩ = some (.int .i64 (M[j].t : Int)) := by
  rcases h.2 with ⟨_, h0⟩ | ⟨g, cap, cur, e, h1, h2, _⟩
  · omega
  · refine ⟨g, cap, e, (World.ownsRow.lt h g (by rw [e]; rfl)).2, fun j hj => ?_⟩
    obtain ⟨c0, c1⟩ := lksV_at M j hj
    have hc := fun i u hu => World.ownsRow.cells h (g := g) (by rw [e]; rfl) i u hu
    have z := fun i u (hu : (lksV M)[i]? = some u) => by have := hc i u hu; rwa [addr_add] at this
    exact ⟨z _ _ c0, z _ _ c1⟩
theorem lk_slice {w : World} {B : Nat} {v : Value} {M : List Lk} (h : LkOwn w B v M) : ∃ a c, v = .slice a M.length c := by
  rcases h.2 with ⟨e, h0⟩ | ⟨g, cap, cur, e, _⟩
  · exact ⟨none, 0, by rw [e, h0]⟩
  · exact ⟨_, _, e⟩
theorem drop_cons {α : Type} (l : List α) (k : Nat) (h : k < l.length) : l.drop k = l[k] :: l.drop (k + 1) := List.drop_eq_getElem_cons h
set_option maxRecDepth 100000 in
set_option maxHeartbeats 2000000 in
theorem mate_any (h : RunAt w b lo aQ cQ s Q y N M k d vv) (hlo : lo ≤ w.heap.size) (hU : Ups N) (hn : N.length ≤ 1000000) (hM : M.length ≤ 1000000) (hE : ∀ v ∈ ends M, v < N.length) (p : Nat) :
    Calls Try.prog 76 #[.pointer (some ⟨b, 0, none⟩), .int .i64 (p : Int)] w fun e w' => e = .returned (.tuple #[(mateV N M p).1, .bool (mateV N M p).2]) ∧ Below w.heap.size w w' := by
  have HTA := hide (fun w1 (hb : Below w.heap.size w w1) v hv => top_any (h.below hb hlo) hU hn v hv)
  have HE := hide hE
  have HST : Hid (∀ j (h : j < M.length), mateV N (M.drop j) p = if top N M[j].f = p then (lkA M[j], true) else if top N M[j].t = p then (lkA M[j].flip, true) else mateV N (M.drop (j + 1)) p) := fun j h => by rw [drop_cons M j h]; exact mate_step N _ _ p
  generalize hR : mateV N M p = R
  have H0 : Hid (R = mateV N (M.drop 0) p) := hR.symm
  have HEND : Hid (mateV N (M.drop M.length) p = (lkA ⟨0, 0⟩, false)) := by rw [List.drop_length]; rfl
  have q4 := h.box.cell 4 _ rfl
  have hblt := h.box.lt
  obtain ⟨aM, cM, eM⟩ := lk_slice h.ms
  rw [eM] at q4
  have HCM : Hid (∀ j (hj : j < M.length), ∃ g, aM = some ⟨g, 0, none⟩ ∧ g < w.heap.size ∧ w.cell? ⟨g, j * 2, none⟩ = some (.int .i64 (M[j].f : Int)) ∧ w.cell? ⟨g, j * 2 + 1, none⟩ = some (.int .i64 (M[j].t : Int))) := fun j hj => by
    obtain ⟨g, c, e, hg, hc⟩ := lk_cells h.ms (by omega)
    rw [eM] at e
    simp at e
    exact ⟨g, e.1, hg, hc j hj⟩
  clear h hR eM hU hE
  obtain ⟨n, hN⟩ : ∃ n, n = M.length := ⟨_, rfl⟩
  rw [← hN] at q4 hM HEND
  have HN := hide hN
  clear hN
  go_enter Try.func76, Try.ntmps76
  go_wp2_with fail
  obtain ⟨W1, hW1⟩ : ∃ W, W = w.alloc (Obj.cells #[.int .i64 0, .int .i64 0] 83) := ⟨_, rfl⟩
  have b1 : Below w.heap.size w W1 := by rw [hW1]; exact below_new _ _
  have m1 : Blk W1 w.heap.size #[.int .i64 0, .int .i64 0] 83 := by rw [hW1]; exact Blk.new0
  have z1 : w.heap.size < W1.heap.size := m1.lt
  rw [← hW1]
  clear hW1
  go_loopw [6] (fun i wr => ∃ j : Nat, i = .int .i64 (j : Int) ∧ j ≤ n ∧ Hid (R = mateV N (M.drop j) p) ∧ Below W1.heap.size W1 wr) (fun i _ => n - (intOf i).toNat)
  case atStart => exact ⟨0, rfl, Nat.zero_le _, unhide H0, Below.refl _ _⟩
  case round =>
    obtain ⟨j, rfl, hj, HR, hb⟩ := hrel
    have bw := b1.trans (hb.mono b1.size)
    have p4 : wr.cell? ⟨b, 4, none⟩ = some (.slice aM n cM) := (bw.cell (p := ⟨b, 4, none⟩) hblt).trans q4
    have mr := m1.below hb
    have zr := hb.size
    by_cases hlt : j < n
    · have hjM : j < M.length := by have := unhide HN; omega
      obtain ⟨g, rfl, hg, d0, d1⟩ := unhide HCM j hjM
      have hx0 : (0 : Int) ≤ (j : Int) := by omega
      have hx1 : (j : Int) < (n : Int) := by omega
      rw [← bw.cell (p := ⟨g, j * 2, none⟩) hg] at d0
      rw [← bw.cell (p := ⟨g, j * 2 + 1, none⟩) hg] at d1
      have HS2 := hide ((unhide HR).trans (unhide HST j hjM))
      have vf : M[j].f < N.length := unhide HE _ (mem_ends.2 ⟨_, List.getElem_mem hjM, .inl rfl⟩)
      have vt : M[j].t < N.length := unhide HE _ (mem_ends.2 ⟨_, List.getElem_mem hjM, .inr rfl⟩)
      generalize M[j] = x at d0 d1 HS2 vf vt
      obtain ⟨xf, xt⟩ := x
      simp only [Lk.flip] at d0 d1 HS2 vf vt
      obtain ⟨V, hV⟩ : ∃ W, W = wr.alloc (Obj.cells #[.int .i64 (xf : Int), .int .i64 (xt : Int)] 83) := ⟨_, rfl⟩
      have bV : Below wr.heap.size wr V := by rw [hV]; exact below_new _ _
      have mV : Blk V wr.heap.size #[.int .i64 (xf : Int), .int .i64 (xt : Int)] 83 := by rw [hV]; exact Blk.new0
      have TF := hide (unhide HTA V (bw.trans (bV.mono bw.size)) xf vf)
      have TT := hide (unhide HTA V (bw.trans (bV.mono bw.size)) xt vt)
      generalize top N xf = tf at TF HS2
      generalize top N xt = tt at TT HS2
      have hgl : g < wr.heap.size := by have := bw.size; omega
      go_wp2_with fail
      rw [← hV]
      clear hV
      have e0 : V.cell? ⟨wr.heap.size, 0, none⟩ = some (.int .i64 (xf : Int)) := mV.cell 0 _ rfl
      have e1 : V.cell? ⟨wr.heap.size, 1, none⟩ = some (.int .i64 (xt : Int)) := mV.cell 1 _ rfl
      have rV := mr.below bV
      have r0 : V.cell? ⟨w.heap.size, 0, none⟩ = some (.int .i64 0) := rV.cell 0 _ rfl
      have r1 : V.cell? ⟨w.heap.size, 1, none⟩ = some (.int .i64 0) := rV.cell 1 _ rfl
      have f0 := rV.froz 0
      have f1 := rV.froz 1
      refine (unhide TF).mono ?_
      rintro e w5 ⟨rfl, rfl⟩
      have BV : Below w.heap.size w w5 := bw.trans (bV.mono bw.size)
      clear d0 d1 p4
      by_cases hf : tf = p
      · have hR2 : R = (lkA ⟨xf, xt⟩, true) := by rw [unhide HS2, if_pos hf]
        subst hR2
        subst hf
        have hq : ((tf : Int) == (tf : Int)) = true := by simp
        have HB2 : Hid (Blk ((w5.setCell ⟨w.heap.size, 0, none⟩ (.int .i64 (xf : Int))).setCell ⟨w.heap.size, 1, none⟩ (.int .i64 (xt : Int))) w.heap.size #[.int .i64 (xf : Int), .int .i64 (xt : Int)] 83) := (rV.set 0 _).set 1 _
        have HB1 : Hid (Below w.heap.size w ((w5.setCell ⟨w.heap.size, 0, none⟩ (.int .i64 (xf : Int))).setCell ⟨w.heap.size, 1, none⟩ (.int .i64 (xt : Int)))) := (BV.setCell (p := ⟨w.heap.size, 0, none⟩) (Nat.le_refl _) _).setCell (p := ⟨w.heap.size, 1, none⟩) (Nat.le_refl _) _
        clear HS2
        go_wp2_with fail
        (try simp only [Exit.inBlock, Exit.then])
        refine bodyPost_ret (results_mate Try.results76 _ _ _ _ _ rfl (load_link (unhide HB2))) rfl ?_
        exact ⟨rfl, unhide HB1⟩
      · have hq : ((tf : Int) == (p : Int)) = false := by simp; omega
        rw [if_neg hf] at HS2
        go_wp2_with fail
        refine (unhide TT).mono ?_
        rintro e w6 ⟨rfl, rfl⟩
        by_cases htt : tt = p
        · have hR2 : R = (lkA ⟨xt, xf⟩, true) := by rw [unhide HS2, if_pos htt]
          subst hR2
          subst htt
          have hq2 : ((tt : Int) == (tt : Int)) = true := by simp
          have HB2 : Hid (Blk ((w6.setCell ⟨w.heap.size, 0, none⟩ (.int .i64 (xt : Int))).setCell ⟨w.heap.size, 1, none⟩ (.int .i64 (xf : Int))) w.heap.size #[.int .i64 (xt : Int), .int .i64 (xf : Int)] 83) := (rV.set 0 _).set 1 _
          have HB1 : Hid (Below w.heap.size w ((w6.setCell ⟨w.heap.size, 0, none⟩ (.int .i64 (xt : Int))).setCell ⟨w.heap.size, 1, none⟩ (.int .i64 (xf : Int)))) := (BV.setCell (p := ⟨w.heap.size, 0, none⟩) (Nat.le_refl _) _).setCell (p := ⟨w.heap.size, 1, none⟩) (Nat.le_refl _) _
          clear HS2
          go_wp2_with fail
          (try simp only [Exit.inBlock, Exit.then])
          refine bodyPost_ret (results_mate Try.results76 _ _ _ _ _ rfl (load_link (unhide HB2))) rfl ?_
          exact ⟨rfl, unhide HB1⟩
        · have hq2 : ((tt : Int) == (p : Int)) = false := by simp; omega
          rw [if_neg htt] at HS2
          clear e0 e1 r0 r1 f0 f1
          go_wp2_with fail
          exact ⟨⟨j + 1, by go_num, by omega, HS2, hb.trans (bV.mono hb.size)⟩, by simp [intOf]; omega⟩
    · obtain rfl : j = n := by omega
      have hR2 : R = (lkA ⟨0, 0⟩, false) := (unhide HR).trans (unhide HEND)
      subst hR2
      have hx1 : ¬ (j : Int) < (j : Int) := by omega
      have r0 : wr.cell? ⟨w.heap.size, 0, none⟩ = some (.int .i64 0) := mr.cell 0 _ rfl
      have r1 : wr.cell? ⟨w.heap.size, 1, none⟩ = some (.int .i64 0) := mr.cell 1 _ rfl
      have f0 := mr.froz 0
      have f1 := mr.froz 1
      have HB2 : Hid (Blk ((wr.setCell ⟨w.heap.size, 0, none⟩ (.int .i64 0)).setCell ⟨w.heap.size, 1, none⟩ (.int .i64 0)) w.heap.size #[.int .i64 0, .int .i64 0] 83) := (mr.set 0 _).set 1 _
      have HB1 : Hid (Below w.heap.size w ((wr.setCell ⟨w.heap.size, 0, none⟩ (.int .i64 0)).setCell ⟨w.heap.size, 1, none⟩ (.int .i64 0))) := (bw.setCell (p := ⟨w.heap.size, 0, none⟩) (Nat.le_refl _) _).setCell (p := ⟨w.heap.size, 1, none⟩) (Nat.le_refl _) _
      go_wp2_with fail
      (try simp only [Exit.inBlock, Exit.then])
      refine bodyPost_ret (results_mate Try.results76 _ _ _ _ _ rfl (load_link (unhide HB2))) rfl ?_
      exact ⟨rfl, unhide HB1⟩
theorem baseOf_eq (N : List Nd) (M : List Lk) (p : Nat) : ∃ x : Lk, (mateV N M p).1 = lkA x ∧ ((mateV N M p).2 = true → x.f = baseOf N M p) ∧ ((mateV N M p).2 = false → (nd N p).base = baseOf N M p) := by
  unfold mateV baseOf
  cases mateOf N M p with
  | none => exact ⟨⟨0, 0⟩, rfl, fun h => by simp at h, fun _ => rfl⟩
  | some m => exact ⟨m, rfl, fun _ => rfl, fun h => by simp at h⟩
set_option maxRecDepth 100000 in
set_option maxHeartbeats 1000000 in
theorem base_any (h : RunAt w b lo aQ cQ s Q y N M k d vv) (hlo : lo ≤ w.heap.size) (hU : Ups N) (hn : N.length ≤ 1000000) (hM : M.length ≤ 1000000) (hE : ∀ v ∈ ends M, v < N.length) (p : Nat) (hp : p < N.length) :
    Calls Try.prog 60 #[.pointer (some ⟨b, 0, none⟩), .int .i64 (p : Int)] w fun e w' => e = .returned (.int .i64 (baseOf N M p : Int)) ∧ Below w.heap.size w w' := by
  have MA := hide (mate_any h hlo hU hn hM hE p)
  obtain ⟨x, e1, e2, e3⟩ := baseOf_eq N M p
  obtain ⟨g, c, _, _, hg, q3, hc⟩ := h.node (by omega)
  obtain ⟨_, _, c2, _⟩ := hc p hp
  have hblt := h.box.lt
  have hx0 : (0 : Int) ≤ (p : Int) := by omega
  have hx1 : (p : Int) < (N.length : Int) := by omega
  rw [e1] at MA
  generalize baseOf N M p = B at e2 e3
  generalize (mateV N M p).2 = has at MA e2 e3
  generalize N.length = n at q3 hx1
  unfold lkA at MA
  clear h hc
  go_enter Try.func60, Try.ntmps60
  go_wp2_with fail
  refine (unhide MA).mono ?_
  rintro e w1 ⟨rfl, b1⟩
  have p3 : w1.cell? ⟨b, 3, none⟩ = _ := (b1.cell (p := ⟨b, 3, none⟩) hblt).trans q3
  have p2 : w1.cell? ⟨g, p * 6 + 2, none⟩ = _ := (b1.cell (p := ⟨g, p * 6 + 2, none⟩) hg).trans c2
  have hb1 : b < w1.heap.size := by have := b1.size; omega
  have hg1 : g < w1.heap.size := by have := b1.size; omega
  have BB : Hid (Below w.heap.size w (w1.alloc (Obj.cells #[.int .i64 (x.f : Int), .int .i64 (x.t : Int)] 83))) := b1.trans ((below_new _ _).mono b1.size)
  cases has with
  | true =>
    have : x.f = B := e2 rfl
    subst this
    go_wp2
    go_ret
    exact ⟨rfl, unhide BB⟩
  | false =>
    have e4 : (nd N p).base = B := e3 rfl
    rw [e4] at p2
    go_wp2
    go_ret
    exact ⟨rfl, unhide BB⟩
end
end Sv
end Go.Proofs.Ytkjclkelnheheaa
