/-
 SvQ1, SvQ2.
-/
import Derived.Test.YtkjclkelnheheaaJ23
import Derived.Test.YtkjclkelnheheaaJ28
import Derived.Test.YtkjclkelnheheaaJ30
import Derived.Test.YtkjclkelnheheaaJ21
import Derived.Test.YtkjclkelnheheaaJ9
import Derived.Laws.AppendOwnNone
import Derived.Test.YtkjclkelnheheaaJ13
import Derived.Test.YtkjclkelnheheaaJ3
namespace Go.Proofs.Ytkjclkelnheheaa
namespace Sv
open Go.RowKit Gr
theorem info_couple : (Try.prog.info? 85).map (fun i => (i.zero, i.size, i.bytes)) = some (some (.agg #[.int .i64 0, .int .i64 0]), 2, 16) := by kernel_rfl
theorem wpList_append_rows {P : Program} (w : World) {ops : Array Oper} {rest : List Oper} {o : Oper} {a : Act} {Q : Exit → Act → World → Prop} (hgd : o.guard = none) (s x : Operand) (t : TypeId)
    (ho : o.op = .call { callee := .builtin .append, args := #[s, x], argTypes := #[t, t] })
    (base : Nat) (e : TypeId) (i : TypeInfo) (z : Value) (size bytes : Nat) (ht : P.underlying t = some (.slice e)) (hi : P.info? e = some i) (hz : i.zero = some z)
    (hsize : i.size = size) (hby : i.bytes = bytes) (hzs : z.cells.size = size) (hsz : 0 < size)
    (v : Value) (n : Nat) (xs : List Value) (hs : a.eval s = v) (hown : w.ownsRow base e size v n xs)
    (v2 : Value) (B2 m : Nat) (news : List Value) (hx : a.eval x = v2) (h2 : w.ownsRow B2 e size v2 m news) (h1 : ∀ u ∈ news, u.oneCell' = true)
    (h63 : n + m ≤ maxLen) (hbytes : (n + m) * bytes ≤ 140737488355328) (hbase : base ≤ w.heap.size)
    (h : ∀ v' w', w'.ownsRow base e size v' (n + m) (xs ++ news) → w.grownBy w' v.ownBlock → wpList P ops Q rest (a.put o.dst v') w') : wpList P ops Q (o :: rest) a w := by
  rcases h2.2 with ⟨e2, h0⟩ | ⟨g, cap, cur, e2, _⟩
  · have hnil : news = [] := by
      have := h2.1
      rw [h0, Nat.zero_mul] at this
      exact List.eq_nil_of_length_eq_zero this
    subst hnil
    refine wpList_append_own_none hgd s x t ho base e i size ht hi v n xs hs hown (by rw [hx, e2]) (h v w ?_ ?_)
    · rw [h0, Nat.add_zero, List.append_nil]; exact hown
    · exact World.grownBy.refl _ _
  · exact wpList_append_own w hgd s x t ho base e i z size bytes ht hi hz hsize hby hzs hsz v n xs hs hown ⟨g, 0, none⟩ m cap news (by rw [hx, e2]) h2.1 (fun j u hu => h2.cells (g := g) (by rw [e2]; rfl) j u hu) h1 h63 hbytes hbase (fun v' w' a1 b1 _ => h v' w' a1 b1)
theorem GOwn.keptG {S : Nat → Prop} {w w' : World} {B : Nat} {v : Value} {ms : List Value} {G : List GrpI} (h : GOwn w B v ms G) (hk : Kept S w w') (hS : ∀ g, B ≤ g → ¬ S g) : GOwn w' B v ms G :=
  ⟨h.1, hk.own h.2.1 (fun g hg => hS g (h.2.1.lt g hg).1), fun j h1 h2 => hk.own (h.2.2 j h1 h2) (fun g hg => hS g ((h.2.2 j h1 h2).lt g hg).1)⟩
theorem results_pf {fn : Func} {a p u : Tmp} (h : fn.results = #[.tmp a, .cell p 30, .tmp u]) (tmps : Array Value) (w : World) (g : Nat) (x0 x1 : Value) (hp : tmps.getD p undef = .pointer (some ⟨g, 0, none⟩)) (hg : Blk w g #[x0, x1] 30) :
    (results fn tmps).run Try.prog w = .ok (.tuple #[tmps.getD a undef, .agg #[x0, x1], tmps.getD u undef]) w := by
  have c0 := hg.cell 0 x0 rfl
  have c1 := hg.cell 1 x1 rfl
  have hp' : tmps[p]?.getD undef = .pointer (some ⟨g, 0, none⟩) := by simpa using hp
  simp [results, h, hp', go_sem, c0, c1]
set_option maxRecDepth 100000 in
set_option maxHeartbeats 4000000 in
theorem solve_any (w : World) (aQ : Option Addr) (cQ s : Nat) (Q : List EdgeI) (hs : s ≤ 100000) (hQl : Q.length ≤ 1000000) (hOk : graphOk (s : Int) Q = true) (hQ : ∀ e ∈ Q, (0 ≤ e.A ∧ e.A < (s : Int)) ∧ (0 ≤ e.B ∧ e.B < (s : Int))) (hE : edgesAt w aQ Q.length w.heap.size Q) :
    Calls Try.prog 12 #[.agg #[.int .i64 (s : Int), .slice aQ Q.length cQ]] w fun u w' => (∃ dm dy dg ms C, u = .returned (.tuple #[dm, .agg #[dy, dg], .bool true]) ∧ w'.ownsRow w.heap.size 85 2 dm (solveM s Q).length (lksV (solveM s Q)) ∧ InOwn w' w.heap.size dy (solveY s Q) ∧ (∀ g, dy.ownBlock = some g → g < C) ∧ w.heap.size ≤ C ∧ C ≤ w'.heap.size ∧ GOwn w' C dg ms (solveG s Q)) ∧ Below w.heap.size w w' := by
  have SI := solved_inv (s := s) (Q := Q) (fun e he => by have := hQ e he; omega)
  have SO := hide (fun U (hU : Below w.heap.size w U) => solve0_any U aQ cQ s Q hs hQl hQ ((hE.below hU (Nat.le_refl _)).mono hU.size))
  have GK := hide (fun U (hU : Below w.heap.size w U) => specGraph_any (.agg #[.int .i64 (s : Int), .slice aQ Q.length cQ]) w.heap.size (s : Int) Q (by omega) U hU.size ⟨aQ, Q.length, cQ, rfl, hE.below hU (Nat.le_refl _)⟩)
  rw [hOk] at GK
  obtain ⟨X, hX⟩ : ∃ X, X = solved s Q := ⟨_, rfl⟩
  rw [← hX] at SI SO
  have HSM : Hid (solveM s Q = cplTo s (openK s X.2.2.1.length X.2.2.1.length (X.2.2.1, X.2.2.2.1)).2) := by rw [hX]; rfl
  have HSY : Hid (solveY s Q = X.2.1) := by rw [hX]; rfl
  have HSG : Hid (solveG s Q = groupsF s X.2.2.1) := by rw [hX]; rfl
  generalize solveM s Q = RM at HSM
  generalize solveY s Q = RY at HSY
  generalize solveG s Q = RG at HSG
  clear hX hE hOk
  obtain ⟨r, y, N, M, d⟩ := X
  simp only at SI SO HSM HSY HSG
  obtain ⟨I, hNl, hyl, hrl⟩ := SI
  have HI := hide I
  have hge := I.ge
  clear I
  obtain ⟨qn, hqn⟩ : ∃ n, n = Q.length := ⟨_, rfl⟩
  rw [← hqn] at SO GK hQl ⊢
  clear hqn
  go_enter Try.func12, Try.ntmps12
  go_upto_region 1 with fail
  obtain ⟨U, hU⟩ : ∃ W, W = (w.alloc (Obj.cells #[.int .i64 (s : Int), .slice aQ qn cQ] 26)).alloc (Obj.cells #[.slice none 0 0, .slice none 0 0] 30) := ⟨_, rfl⟩
  rw [← hU]
  have hbU : Below w.heap.size w U := by rw [hU]; exact ((Below.refl w.heap.size w).alloc (Nat.le_refl _) _).alloc (by simp) _
  have mG : Blk U w.heap.size #[.int .i64 (s : Int), .slice aQ qn cQ] 26 := by rw [hU]; exact Blk.new0.below (below_new _ _)
  have mP : Blk U (w.heap.size + 1) #[.slice none 0 0, .slice none 0 0] 30 := by rw [hU]; exact Blk.new1
  have HZU : Hid (U.heap.size = w.heap.size + 2) := by show _ = _; rw [hU]; simp
  clear hU
  have g0 : U.cell? ⟨w.heap.size, 0, none⟩ = some (.int .i64 (s : Int)) := mG.cell 0 _ rfl
  have g1 : U.cell? ⟨w.heap.size, 1, none⟩ = some (.slice aQ qn cQ) := mG.cell 1 _ rfl
  go_wp2_with fail
  refine (unhide GK U hbU).mono ?_
  rintro u w1 ⟨rfl, hb1⟩
  have hbw1 : Below w.heap.size w w1 := hbU.trans (hb1.mono hbU.size)
  have zU1 : w.heap.size + 2 ≤ w1.heap.size := by have := unhide HZU; have := hb1.size; omega
  have mG1 := mG.below hb1
  have mP1 := mP.below hb1
  have g0' : w1.cell? ⟨w.heap.size, 0, none⟩ = some (.int .i64 (s : Int)) := mG1.cell 0 _ rfl
  have g1' : w1.cell? ⟨w.heap.size, 1, none⟩ = some (.slice aQ qn cQ) := mG1.cell 1 _ rfl
  clear g0 g1 GK
  go_wp2_with fail
  refine (unhide SO w1 hbw1).mono ?_
  rintro u w2 ⟨⟨b, rfl, vv, hR⟩, hb2⟩
  have hbw2 : Below w.heap.size w w2 := hbw1.trans (hb2.mono hbw1.size)
  have mG2 := mG1.below hb2
  have mP2 := mP1.below hb2
  obtain ⟨ay, cy, ey⟩ : ∃ a c, vv.y = .slice a s c := by
    rcases hR.ys.2 with ⟨e, h0⟩ | ⟨g, cap, cur, e, _⟩
    · exact ⟨none, 0, by rw [e, ← hyl, h0]⟩
    · exact ⟨_, _, by rw [e, hyl]⟩
  have q1 := hR.box.cell 2 _ rfl
  rw [ey] at q1
  have HR := hide hR
  clear SO hR g0' g1' mG mG1 mP mP1
  obtain ⟨i0, hi0', hy0, hy1, hy2⟩ := info_parts info_int
  have hown0 : (w2.alloc (Obj.cells #[] 3)).ownsRow w2.heap.size 3 1 (.slice (some ⟨w2.heap.size, 0, none⟩) 0 0) 0 [] := ⟨rfl, .inr ⟨w2.heap.size, 0, #[], rfl, Nat.le_refl _, heap_alloc_new w2 _, Nat.le_refl _, by unfold maxLen; omega, rfl, rfl⟩⟩
  have hysr : (w2.alloc (Obj.cells #[] 3)).ownsRow (w1.heap.size + 1) 3 1 (.slice ay s cy) s (intsV y) := by
    have := (unhide HR).ys
    rw [ey, hyl] at this
    exact own_below this (below_new w2 _)
  have hbl := (unhide HR).box.lt
  go_wp2_with (at_builtin; refine wpList_append_rows _ rfl _ _ 27 rfl w2.heap.size 3 i0 (.int .i64 0) 1 8 Try.underlying27 hi0' hy0 hy1 hy2 rfl (by decide) _ _ _ rfl hown0 _ _ _ _ rfl hysr (by intro u hu; obtain ⟨x, _, rfl⟩ := List.mem_map.1 hu; rfl) ?c1 ?c2 ?c3 ?_)
  case c1 => unfold maxLen; omega
  case c2 => omega
  case c3 => simp
  intro v3 w3 hown3 hgrow3
  obtain ⟨a3, c3, e3⟩ : ∃ a c, v3 = .slice a s c := by
    rcases hown3.2 with ⟨e, h0⟩ | ⟨g, cap, cur, e, _⟩
    · exact ⟨none, 0, by rw [e, show s = 0 by omega]⟩
    · exact ⟨_, _, e⟩
  subst e3
  have b3 : Below w2.heap.size w2 w3 := (below_new w2 _).trans ((Kept.of_grown hgrow3).below (by simp) (fun x hx => by simp [Value.ownBlock] at hx; omega))
  have R3 := hide ((unhide HR).below b3 (by have := (unhide HR).blo; omega))
  have HV3 := hide hown3
  have HYC0 : Hid (∀ g, (Value.slice a3 s c3).ownBlock = some g → g < w3.heap.size) := fun g hg => (hown3.lt g hg).2
  have mG3 := mG2.below b3
  have mP3 := mP2.below b3
  have GA := hide (groups_any (unhide R3) (by have := b3.size; have := (unhide HR).blo; omega) (unhide HI) (by omega))
  clear hown0 hysr hown3 hgrow3 q1
  go_wp2_with fail
  refine (unhide GA).mono ?_
  rintro u w4 ⟨⟨gG, cG, rfl, ms, hG⟩, hb4⟩
  have R4 := hide ((unhide R3).below hb4 (by have := b3.size; have := (unhide HR).blo; omega))
  have HV4 := hide (own_below (unhide HV3) hb4)
  have HG4 := hide hG
  have mG4 := mG3.below hb4
  have mP4 := mP3.below hb4
  clear GA hG HV3 R3 mG3 mP3 mG2 mP2
  go_upto_region 5 with fail
  obtain ⟨X5, hX5⟩ : ∃ W, W = w4.alloc (Obj.cells #[.slice a3 s c3, .slice (some ⟨gG, 0, none⟩) (groupsF s N).length cG] 30) := ⟨_, rfl⟩
  rw [← hX5]
  have b5 : Below w4.heap.size w4 X5 := by rw [hX5]; exact below_new w4 _
  have HM5 : Hid (Blk X5 w4.heap.size #[.slice a3 s c3, .slice (some ⟨gG, 0, none⟩) (groupsF s N).length cG] 30) := by rw [hX5]; exact Blk.new0
  clear hX5
  have z2 := b3.size
  have z4 := hb4.size
  have z5 := b5.size
  have zb := (unhide HR).blo
  have z12 := hb2.size
  have R5 := hide ((unhide R4).below b5 (by omega))
  have HFT : Hid (∀ i, Foot b vv i → (w1.heap.size + 1 ≤ i ∧ i < w2.heap.size)) := fun i hi => (unhide HR).footLt i hi
  obtain ⟨n, hN⟩ : ∃ n, n = N.length := ⟨_, rfl⟩
  have HN := hide hN
  obtain ⟨FIN, hFIN⟩ : ∃ F, F = openK s n n (N, M) := ⟨_, rfl⟩
  have HFIN := hide hFIN
  have HFIN0 := hide hFIN
  have hn9 : n ≤ 500000 := by omega
  have hsn : s ≤ n := by omega
  clear hFIN hN R4 HR
  go_wp2_with fail
  go_loopw [7] (fun a7 wr => ∃ (kk : Nat) (x : List Nd × List Lk) (v' : Value), a7 = .int .i64 (kk : Int) ∧ kk ≤ n ∧ Hid (RunAt wr b (w1.heap.size + 1) aQ cQ s Q y x.1 x.2 (r : Int) d { vv with m := v' }) ∧ Hid (Inv s x.1 x.2 ∧ x.1.length = n) ∧ Hid (FIN = openK s n (n - kk) x) ∧ Hid (∀ i, Foot b { vv with m := v' } i → (w1.heap.size + 1 ≤ i ∧ i < w2.heap.size) ∨ X5.heap.size ≤ i) ∧ Kept (fun i => w1.heap.size + 1 ≤ i ∧ i < w2.heap.size) X5 wr) (fun a7 _ => n - (intOf a7).toNat)
  case atStart => exact ⟨0, (N, M), vv.m, rfl, Nat.zero_le _, R5, ⟨unhide HI, (unhide HN).symm⟩, HFIN, (fun i hi => .inl (unhide HFT i hi)), Kept.refl _ _⟩
  case round =>
    clear R5 HFIN HFT
    obtain ⟨kk, x, v', rfl, hkk, HRK, HIK, HFK, HTK, hk⟩ := hrel
    obtain ⟨an, cn, en⟩ : ∃ a c, vv.n = .slice a n c := by
      have hns := (unhide HRK).ns
      rw [(unhide HIK).2] at hns
      rcases hns.2 with ⟨e, h0⟩ | ⟨g, cap, cur, e, _⟩
      · exact ⟨none, 0, by simp only at e; rw [e, h0]⟩
      · exact ⟨_, _, e⟩
    have HEN := hide en
    have q3 : wr.cell? ⟨b, 3, none⟩ = some (.slice an n cn) := by
      have := (unhide HRK).box.cell 3 _ rfl
      simp only at this
      rw [en] at this
      exact this
    have q0 : wr.cell? ⟨b, 0, none⟩ = some (.int .i64 (s : Int)) := (unhide HRK).box.cell 0 _ rfl
    clear en
    by_cases hlt : kk < n
    · have hk1 : (kk : Int) < (n : Int) := by omega
      have HF1 : Hid (FIN = openK s n (n - (kk + 1)) (openRow (List.range' s (n - s)) x)) := by
        show _ = _
        rw [unhide HFK, show n - kk = (n - (kk + 1)) + 1 by omega]; rfl
      clear HFK
      go_wp2_with fail
      go_loopw [8] (fun a8 wr => ∃ (i : Nat) (x : List Nd × List Lk) (v' : Value), a8 = .int .i64 (i : Int) ∧ s ≤ i ∧ i ≤ n ∧ Hid (RunAt wr b (w1.heap.size + 1) aQ cQ s Q y x.1 x.2 (r : Int) d { vv with m := v' }) ∧ Hid (Inv s x.1 x.2 ∧ x.1.length = n) ∧ Hid (FIN = openK s n (n - (kk + 1)) (openRow (List.range' i (n - i)) x)) ∧ Hid (∀ i, Foot b { vv with m := v' } i → (w1.heap.size + 1 ≤ i ∧ i < w2.heap.size) ∨ X5.heap.size ≤ i) ∧ Kept (fun i => w1.heap.size + 1 ≤ i ∧ i < w2.heap.size) X5 wr) (fun a8 _ => n - (intOf a8).toNat)
      case atStart => exact ⟨s, x, v', rfl, Nat.le_refl _, hsn, HRK, HIK, HF1, HTK, hk⟩
      case round =>
        clear HRK HIK HF1 HTK hk q3 q0
        obtain ⟨i, x, v', rfl, hsi, hi, HRK, HIK, HFK, HTK, hk⟩ := hrel
        have q3 : wr.cell? ⟨b, 3, none⟩ = some (.slice an n cn) := by
          have := (unhide HRK).box.cell 3 _ rfl
          simp only at this
          rw [unhide HEN] at this
          exact this
        have zk : X5.heap.size ≤ wr.heap.size := hk.2.2.2.1
        by_cases hin : i < n
        · have hi0 : (0 : Int) ≤ (i : Int) := by omega
          have hi1 : (i : Int) < (n : Int) := by omega
          have HF2 := hide ((unhide HFK).trans (by rw [openRow_step n i x hin]))
          have IT := hide (isTop_any (unhide HRK) (by have := (unhide HIK).2; omega) i (by have := (unhide HIK).2; omega))
          have OP := hide (fun ha => open_any (unhide HRK) (by omega) (unhide HIK).1 (by have := (unhide HIK).2; omega) (by have := (unhide HIK).1.few; have := (unhide HIK).2; omega) i hsi (by have := (unhide HIK).2; omega) ha)
          have HST := hide (openStep_inv (unhide HIK).1 hsi (by have := (unhide HIK).2; omega))
          have HGT : Hid (isTopB x.1 i = true → (nd x.1 i).gone = false) := fun h => by
            unfold isTopB at h
            simp only [Bool.and_eq_true, Bool.not_eq_true', decide_eq_true_eq] at h
            exact h.1
          rw [show (!(nd x.1 i).gone && decide (upA x.1 i < 0)) = isTopB x.1 i from rfl] at IT
          generalize isTopB x.1 i = tb at IT HGT HF2 HST
          clear HFK
          go_wp2_with fail
          refine (unhide IT).mono ?_
          rintro u w8 ⟨rfl, hw8⟩
          have hw8' := hw8.symm
          subst hw8'
          clear IT
          cases tb with
          | false =>
            simp only [Bool.false_eq_true, if_false] at HF2
            go_wp2_with fail
            exact ⟨⟨i + 1, x, v', by go_num, by omega, by omega, HRK, HIK, HF2, HTK, hk⟩, by simp [intOf]; omega⟩
          | true =>
            simp only [if_true] at HF2 HST
            have OQ := hide (unhide OP (unhide HGT rfl))
            clear OP HGT
            go_wp2_with fail
            refine (unhide OQ).mono ?_
            rintro u w9 ⟨rfl, ⟨v9, hr9, hm9⟩, hk9⟩
            have HR9 := hide hr9
            have HI9 : Hid (Inv s (openN x.1 i) (openM x.1 x.2 i) ∧ (openN x.1 i).length = n) := ⟨(unhide HST).1, (unhide HST).2.trans (unhide HIK).2⟩
            have HT9 : Hid (∀ i, Foot b { vv with m := v9 } i → (w1.heap.size + 1 ≤ i ∧ i < w2.heap.size) ∨ X5.heap.size ≤ i) := fun j hj => by
              rcases hj with h | h | h | h
              · exact unhide HTK j (.inl h)
              · exact unhide HTK j (.inr (.inl h))
              · exact unhide HTK j (.inr (.inr (.inl h)))
              · rcases hm9 j h with h | h
                · exact unhide HTK j (.inr (.inr (.inr h)))
                · exact .inr (by omega)
            have K9 : Kept (fun i => w1.heap.size + 1 ≤ i ∧ i < w2.heap.size) X5 w9 := by
              refine ⟨hk9.1.trans hk.1, hk9.2.1.trans hk.2.1, hk9.2.2.1.trans hk.2.2.1, Nat.le_trans zk hk9.2.2.2.1, fun j hj hS => ?_⟩
              rw [hk9.2.2.2.2 j (by omega) (fun hf => by rcases unhide HTK j hf with h | h; exact hS h; omega)]
              exact hk.2.2.2.2 j hj hS
            clear hr9 hm9 hk9 OQ HRK HIK HTK hk HST
            go_wp2_with fail
            exact ⟨⟨i + 1, (openN x.1 i, openM x.1 x.2 i), v9, by go_num, by omega, by omega, HR9, HI9, HF2, HT9, K9⟩, by simp [intOf]; omega⟩
        · obtain rfl : i = n := by omega
          have hi1 : ¬ (i : Int) < (i : Int) := by omega
          have HF3 : Hid (FIN = openK s i (i - (kk + 1)) x) := by
            show _ = _
            rw [unhide HFK, Nat.sub_self]; rfl
          clear HFK
          go_wp2_with fail
          exact ⟨⟨kk + 1, x, v', by go_num, by omega, HRK, HIK, HF3, HTK, hk⟩, by simp [intOf]; omega⟩
    · have hk1 : ¬ (kk : Int) < (n : Int) := by omega
      have hx : FIN = x := by rw [unhide HFK, show n - kk = 0 by omega]; rfl
      have HX9 := hide hx
      clear hx HFK
      obtain ⟨W8, hW8⟩ : ∃ W, W = wr := ⟨_, rfl⟩
      subst hW8
      have zk : X5.heap.size ≤ W8.heap.size := hk.2.2.2.1
      have zw := hbw1.size
      have mG8 : Blk W8 w.heap.size #[.int .i64 (s : Int), .slice aQ qn cQ] 26 := (mG4.below b5).kept hk (by intro h; omega)
      obtain ⟨am, cm, em⟩ := lk_slice (unhide HRK).ms
      simp only at em
      subst em
      have HMC : Hid (∀ i (hi : i < x.2.length), ∃ gm, am = some ⟨gm, 0, none⟩ ∧ gm < W8.heap.size ∧ W8.cell? ⟨gm, i * 2, none⟩ = some (.int .i64 (x.2[i].f : Int)) ∧ W8.cell? ⟨gm, i * 2 + 1, none⟩ = some (.int .i64 (x.2[i].t : Int))) := fun i hi => by
        obtain ⟨gm, c, e, h1, h2⟩ := lk_cells (unhide HRK).ms (by omega)
        simp at e
        exact ⟨gm, e.1, h1, h2 i hi⟩
      have q4 : W8.cell? ⟨b, 4, none⟩ = some (.slice am x.2.length cm) := (unhide HRK).box.cell 4 _ rfl
      have hb8 := (unhide HRK).box.lt
      have hmn : x.2.length ≤ 250000 := by have := (unhide HIK).1.few; have := (unhide HIK).2; omega
      have g8 : W8.cell? ⟨w.heap.size, 0, none⟩ = some (.int .i64 (s : Int)) := mG8.cell 0 _ rfl
      obtain ⟨j1, hj1, hjz0, hjz1, hjz2⟩ := info_parts info_couple
      go_upto_region 14 with fail
      have HOC : Hid ((W8.alloc (Obj.cells #[] 85)).ownsRow W8.heap.size 85 2 (.slice (some ⟨W8.heap.size, 0, none⟩) 0 0) ([] : List Lk).length (lksV [])) := ⟨rfl, .inr ⟨W8.heap.size, 0, #[], rfl, Nat.le_refl _, heap_alloc_new W8 _, Nat.le_refl _, by unfold maxLen; omega, rfl, rfl⟩⟩
      go_wp2_with fail
      go_loopw [9, 10] (fun a9 a10 wr => ∃ (v : Nat) (L : List Lk), a10 = .int .i64 (v : Int) ∧ v ≤ s ∧ Hid (L = cplTo v x.2) ∧ L.length ≤ v * 500000 ∧ Hid (wr.ownsRow W8.heap.size 85 2 a9 L.length (lksV L)) ∧ Below W8.heap.size W8 wr) (fun _ a10 _ => s - (intOf a10).toNat)
      case atStart => exact ⟨0, [], rfl, Nat.zero_le _, rfl, by simp, HOC, below_new W8 _⟩
      case round =>
        clear HOC
        obtain ⟨v, L, rfl, hv, HL, hLl, HO, hbr⟩ := hrel
        have g8' : wr.cell? ⟨w.heap.size, 0, none⟩ = some (.int .i64 (s : Int)) := (hbr.cell (p := ⟨w.heap.size, 0, none⟩) mG8.lt).trans g8
        by_cases hvs : v < s
        · have hv1 : (v : Int) < (s : Int) := by omega
          have HL0 : Hid (L = cplTo v x.2 ++ cplRow v (x.2.take 0)) := by show _ = _; rw [unhide HL]; simp [cplRow]
          clear HL
          go_wp2_with fail
          go_loopw [9, 11] (fun a9 a11 wr => ∃ (i : Nat) (L : List Lk), a11 = .int .i64 (i : Int) ∧ i ≤ x.2.length ∧ Hid (L = cplTo v x.2 ++ cplRow v (x.2.take i)) ∧ L.length ≤ v * 500000 + i ∧ Hid (wr.ownsRow W8.heap.size 85 2 a9 L.length (lksV L)) ∧ Below W8.heap.size W8 wr) (fun _ a11 _ => x.2.length - (intOf a11).toNat)
          case atStart => exact ⟨0, L, rfl, Nat.zero_le _, HL0, Nat.le_trans hLl (Nat.le_add_right _ _), HO, hbr⟩
          case round =>
            clear HL0 HO hbr g8'
            obtain ⟨i, L, rfl, hi, HL, hLl, HO, hbr⟩ := hrel
            have q4' : wr.cell? ⟨b, 4, none⟩ = some (.slice am x.2.length cm) := (hbr.cell (p := ⟨b, 4, none⟩) hb8).trans q4
            by_cases him : i < x.2.length
            · have hi0 : (0 : Int) ≤ (i : Int) := by omega
              have hi1 : (i : Int) < (x.2.length : Int) := by omega
              obtain ⟨gm, rfl, hgm, l0, l1⟩ := unhide HMC i him
              have HCS := hide (cplRow_take v x.2 i him)
              rw [← hbr.cell (p := ⟨gm, i * 2, none⟩) hgm] at l0
              rw [← hbr.cell (p := ⟨gm, i * 2 + 1, none⟩) hgm] at l1
              generalize x.2[i] = lk at l0 l1 HCS
              obtain ⟨f, t⟩ := lk
              simp only at l0 l1
              by_cases h1 : v = f
              · subst h1
                by_cases h2 : v < t
                · have h2i : (v : Int) < (t : Int) := by omega
                  have h3i : ¬ (t : Int) = (v : Int) := by omega
                  have HL2 : Hid (cplTo v x.2 ++ cplRow v (x.2.take (i + 1)) = L ++ [⟨v, t⟩]) := by
                    show _ = _
                    rw [unhide HL, unhide HCS, cplAt_a v v t (by omega) (by omega), List.append_assoc]
                  clear HL
                  have hown := own_below (unhide HO) (below_new wr (Obj.cells #[.int .i64 (v : Int), .int .i64 (t : Int)] 83))
                  go_wp2_with (at_builtin; refine wpList_append_own _ rfl _ _ 39 rfl W8.heap.size 85 j1 (.agg #[.int .i64 0, .int .i64 0]) 2 16 Try.underlying39 hj1 hjz0 hjz1 hjz2 rfl (by decide) _ L.length _ rfl (hown.alloc _) ⟨wr.heap.size + 1, 0, none⟩ 1 1 [.int .i64 (v : Int), .int .i64 (t : Int)] rfl rfl (World.news_of_block Blk.new1) (by intro u hu; simp at hu; rcases hu with rfl | rfl <;> rfl) ?c1 ?c2 ?c3 ?_)
                  case c1 => unfold maxLen; omega
                  case c2 => omega
                  case c3 => have := hbr.size; simp; omega
                  intro v7 w7 hown7 hgrow7 _
                  have hlt7 := World.ownsRow.lt hown
                  have b7 : Below W8.heap.size W8 w7 := ((hbr.trans ((below_new wr _).mono hbr.size)).trans ((below_new _ _).mono (by have := hbr.size; simp; omega))).trans ((Kept.of_grown hgrow7).below (by have := hbr.size; simp; omega) (fun g hg => (hlt7 g hg).1))
                  have HO7 : Hid (w7.ownsRow W8.heap.size 85 2 v7 (L ++ ([⟨v, t⟩] : List Lk)).length (lksV (L ++ ([⟨v, t⟩] : List Lk)))) := by
                    show World.ownsRow _ _ _ _ _ _ _
                    rw [lksV_snoc, List.length_append]
                    exact hown7
                  rw [← unhide HL2] at HO7
                  have hll : (cplTo v x.2 ++ cplRow v (x.2.take (i + 1))).length = L.length + 1 := by rw [unhide HL2, List.length_append]; rfl
                  have nb := (Blk.new0 (W := wr) (C := #[.int .i64 (v : Int), .int .i64 (t : Int)]) (t := 83))
                  have nb7 : Blk w7 wr.heap.size #[.int .i64 (v : Int), .int .i64 (t : Int)] 83 := (nb.below (below_new _ _)).kept (Kept.of_grown hgrow7) (fun hg => by have h1 := World.ownsRow.lt (unhide HO) _ hg; omega)
                  have n0 : w7.cell? ⟨wr.heap.size, 0, none⟩ = some (.int .i64 (v : Int)) := nb7.cell 0 _ rfl
                  have n1 : w7.cell? ⟨wr.heap.size, 1, none⟩ = some (.int .i64 (t : Int)) := nb7.cell 1 _ rfl
                  clear nb nb7
                  clear hown hown7 hgrow7 hlt7
                  go_wp2_with fail
                  exact ⟨⟨i + 1, _, by go_num, by omega, rfl, by omega, HO7, b7⟩, by simp [intOf]; omega⟩
                · have h2i : ¬ (v : Int) < (t : Int) := by omega
                  by_cases h3 : v = t
                  · subst h3
                    have h4i : ¬ (v : Int) < (v : Int) := by omega
                    have HL2 : Hid (L = cplTo v x.2 ++ cplRow v (x.2.take (i + 1))) := by
                      show _ = _
                      rw [unhide HL, unhide HCS, cplAt_c v v v (by omega) (by omega), List.append_nil]
                    clear HL
                    go_wp2_with fail
                    exact ⟨⟨i + 1, L, by go_num, by omega, HL2, by omega, own_below (unhide HO) (below_new wr _), hbr.trans ((below_new wr _).mono hbr.size)⟩, by simp [intOf]; omega⟩
                  · have h3i : ¬ (t : Int) = (v : Int) := by omega
                    have HL2 : Hid (L = cplTo v x.2 ++ cplRow v (x.2.take (i + 1))) := by
                      show _ = _
                      rw [unhide HL, unhide HCS, cplAt_c v v t (by omega) (by omega), List.append_nil]
                    clear HL
                    go_wp2_with fail
                    exact ⟨⟨i + 1, L, by go_num, by omega, HL2, by omega, own_below (unhide HO) (below_new wr _), hbr.trans ((below_new wr _).mono hbr.size)⟩, by simp [intOf]; omega⟩
              · have h1i : ¬ (f : Int) = (v : Int) := by omega
                by_cases h3 : v = t
                · subst h3
                  by_cases h4 : v < f
                  · have h4i : (v : Int) < (f : Int) := by omega
                    have HL2 : Hid (cplTo v x.2 ++ cplRow v (x.2.take (i + 1)) = L ++ [⟨v, f⟩]) := by
                      show _ = _
                      rw [unhide HL, unhide HCS, cplAt_b v f v (by omega) (by omega), List.append_assoc]
                    clear HL
                    have hown := own_below (unhide HO) (below_new wr (Obj.cells #[.int .i64 (f : Int), .int .i64 (v : Int)] 83))
                    go_wp2_with (at_builtin; refine wpList_append_own _ rfl _ _ 39 rfl W8.heap.size 85 j1 (.agg #[.int .i64 0, .int .i64 0]) 2 16 Try.underlying39 hj1 hjz0 hjz1 hjz2 rfl (by decide) _ L.length _ rfl (hown.alloc _) ⟨wr.heap.size + 1, 0, none⟩ 1 1 [.int .i64 (v : Int), .int .i64 (f : Int)] rfl rfl (World.news_of_block Blk.new1) (by intro u hu; simp at hu; rcases hu with rfl | rfl <;> rfl) ?c1 ?c2 ?c3 ?_)
                    case c1 => unfold maxLen; omega
                    case c2 => omega
                    case c3 => have := hbr.size; simp; omega
                    intro v7 w7 hown7 hgrow7 _
                    have hlt7 := World.ownsRow.lt hown
                    have b7 : Below W8.heap.size W8 w7 := ((hbr.trans ((below_new wr _).mono hbr.size)).trans ((below_new _ _).mono (by have := hbr.size; simp; omega))).trans ((Kept.of_grown hgrow7).below (by have := hbr.size; simp; omega) (fun g hg => (hlt7 g hg).1))
                    have HO7 : Hid (w7.ownsRow W8.heap.size 85 2 v7 (L ++ ([⟨v, f⟩] : List Lk)).length (lksV (L ++ ([⟨v, f⟩] : List Lk)))) := by
                      show World.ownsRow _ _ _ _ _ _ _
                      rw [lksV_snoc, List.length_append]
                      exact hown7
                    rw [← unhide HL2] at HO7
                    have hll : (cplTo v x.2 ++ cplRow v (x.2.take (i + 1))).length = L.length + 1 := by rw [unhide HL2, List.length_append]; rfl
                    clear hown hown7 hgrow7 hlt7
                    go_wp2_with fail
                    exact ⟨⟨i + 1, _, by go_num, by omega, rfl, by omega, HO7, b7⟩, by simp [intOf]; omega⟩
                  · have h4i : ¬ (v : Int) < (f : Int) := by omega
                    have HL2 : Hid (L = cplTo v x.2 ++ cplRow v (x.2.take (i + 1))) := by
                      show _ = _
                      rw [unhide HL, unhide HCS, cplAt_c v f v (by omega) (by omega), List.append_nil]
                    clear HL
                    go_wp2_with fail
                    exact ⟨⟨i + 1, L, by go_num, by omega, HL2, by omega, own_below (unhide HO) (below_new wr _), hbr.trans ((below_new wr _).mono hbr.size)⟩, by simp [intOf]; omega⟩
                · have h3i : ¬ (t : Int) = (v : Int) := by omega
                  have HL2 : Hid (L = cplTo v x.2 ++ cplRow v (x.2.take (i + 1))) := by
                    show _ = _
                    rw [unhide HL, unhide HCS, cplAt_c v f t (by omega) (by omega), List.append_nil]
                  clear HL
                  go_wp2_with fail
                  exact ⟨⟨i + 1, L, by go_num, by omega, HL2, by omega, own_below (unhide HO) (below_new wr _), hbr.trans ((below_new wr _).mono hbr.size)⟩, by simp [intOf]; omega⟩
            · have hi1 : ¬ (i : Int) < (x.2.length : Int) := by omega
              have HL2 : Hid (L = cplTo (v + 1) x.2) := by show _ = _; rw [unhide HL, cplTo_next, show i = x.2.length by omega, List.take_length]
              go_wp2_with fail
              exact ⟨⟨v + 1, L, by go_num, by omega, HL2, by omega, HO, hbr⟩, by simp [intOf]; omega⟩
        · have hv1 : ¬ (v : Int) < (s : Int) := by omega
          obtain rfl : v = s := by omega
          have hFx : RM = L := by
            have h1 := unhide HSM
            have h2 := unhide HFIN0
            have h3 := unhide HX9
            have h4 := unhide HN
            rw [← h4, ← h2, h3] at h1
            rw [h1, unhide HL]
          have zbr := hbr.size
          have hV8 : wr.ownsRow w2.heap.size 3 1 (.slice a3 v c3) v (intsV y) := by
            have h1 := own_below (unhide HV4) b5
            exact own_below (hk.own h1 (fun g hg hS => by have := h1.lt g hg; omega)) hbr
          have hYC : ∀ g, (Value.slice a3 v c3).ownBlock = some g → g < w3.heap.size := unhide HYC0
          have hG8 : GOwn wr w3.heap.size (.slice (some ⟨gG, 0, none⟩) (groupsF v N).length cG) ms (groupsF v N) :=
            GOwn.below (GOwn.keptG (GOwn.below (unhide HG4) b5) hk (fun g h1 h2 => by omega)) hbr
          have m8 : Blk wr w4.heap.size #[.slice a3 v c3, .slice (some ⟨gG, 0, none⟩) (groupsF v N).length cG] 30 := ((unhide HM5).kept hk (by intro h; omega)).below hbr
          have p8 : Blk wr (w.heap.size + 1) #[.slice none 0 0, .slice none 0 0] 30 := ((mP4.below b5).kept hk (by intro h; omega)).below hbr
          have hbw8 : Below w.heap.size w wr := by
            have h4 : Below w.heap.size w w4 := (hbw2.trans (b3.mono hbw2.size)).trans (hb4.mono (by have := hbw2.size; omega))
            have h5 : Below w.heap.size w X5 := h4.trans (b5.mono h4.size)
            have h8 : Below w.heap.size w W8 := h5.trans (hk.below h5.size (fun i hi => by omega))
            exact h8.trans (hbr.mono h8.size)
          have l0 : wr.cell? ⟨w4.heap.size, 0, none⟩ = some (.slice a3 v c3) := m8.cell 0 _ rfl
          have l1 : wr.cell? ⟨w4.heap.size, 1, none⟩ = some (.slice (some ⟨gG, 0, none⟩) (groupsF v N).length cG) := m8.cell 1 _ rfl
          have t0 : wr.cell? ⟨w.heap.size + 1, 0, none⟩ = some (.slice none 0 0) := p8.cell 0 _ rfl
          have t1 : wr.cell? ⟨w.heap.size + 1, 1, none⟩ = some (.slice none 0 0) := p8.cell 1 _ rfl
          have f0 := p8.froz 0
          have f1 := p8.froz 1
          have kE : Kept (fun g => g = w.heap.size + 1) wr ((wr.setCell ⟨w.heap.size + 1, 0, none⟩ (.slice a3 v c3)).setCell ⟨w.heap.size + 1, 1, none⟩ (.slice (some ⟨gG, 0, none⟩) (groupsF v N).length cG)) := (Kept.set (S := fun g => g = w.heap.size + 1) _ _ _ _ rfl).trans (Kept.set (S := fun g => g = w.heap.size + 1) _ _ _ _ rfl)
          have HE0 := hide ((p8.set 0 (.slice a3 v c3)).set 1 (.slice (some ⟨gG, 0, none⟩) (groupsF v N).length cG))
          have HE1 := hide (own_lower (show w.heap.size ≤ W8.heap.size by omega) (kE.own (unhide HO) (fun g hg hS => by have := (unhide HO).lt g hg; omega)))
          have HE2 := hide (own_lower (show w.heap.size ≤ w2.heap.size by omega) (kE.own hV8 (fun g hg hS => by have := hV8.lt g hg; omega)))
          have HE3 := hide (GOwn.keptG hG8 kE (fun g h1 h2 => by omega))
          have HYC := hide hYC
          have hw3 : w.heap.size ≤ w3.heap.size := by omega
          have HW3 := hide (Nat.le_trans (show w3.heap.size ≤ wr.heap.size by omega) kE.2.2.2.1)
          have HE4 := hide (hbw8.trans (kE.below hbw8.size (fun i hi => by omega)))
          have hyy : y.length = v := hyl
          have HYY := hide hyy
          clear hyy hYC hV8 hG8 m8 p8 hbw8 kE hbr HO HL
          go_wp2_with fail
          go_region
          go_wp2_with fail
          (try simp only [Exit.inBlock, Exit.then])
          refine bodyPost_ret (results_pf Try.results12 _ _ (w.heap.size + 1) _ _ rfl (unhide HE0).drew) rfl ?_
          refine ⟨⟨_, _, _, ms, w3.heap.size, rfl, ?_, ?_, unhide HYC, hw3, unhide HW3, ?_⟩, (unhide HE4).drew⟩
          · rw [hFx]; exact own_below (unhide HE1) (Below.refl _ _).drew
          · rw [unhide HSY]; unfold InOwn; rw [unhide HYY]; exact own_below (unhide HE2) (Below.refl _ _).drew
          · rw [unhide HSG]; exact (unhide HE3).below (Below.refl _ _).drew
theorem gbulk_le (k : Nat) : ∀ (G : List GrpI), (∀ q ∈ G, q.M.length ≤ k) → gbulk G ≤ G.length * k
  | [], _ => by simp [gbulk]
  | x :: G, h => by
    have h1 := gbulk_le k G (fun q hq => h q (by simp [hq]))
    have h2 := h x (by simp)
    rw [gbulk, List.length_cons, Nat.succ_mul]
    omega
def cplI (x : Lk) : CoupleI := ⟨(x.f : Int), (x.t : Int)⟩
theorem lks_couples : ∀ (L : List Lk), lksV L = couplesV (L.map cplI)
  | [] => rfl
  | x :: L => by
    have := lks_couples L
    simp only [lksV, couplesV, List.map_cons, List.flatMap_cons] at this ⊢
    rw [this]
    rfl
end Sv
end Go.Proofs.Ytkjclkelnheheaa
