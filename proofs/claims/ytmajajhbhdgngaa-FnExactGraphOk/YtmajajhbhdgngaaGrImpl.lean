/-
  The contract of impl.Induced. (With GrImplB and GrImplC: the program's contracts of chapter 8, in the form that a law's walk asks for.)
-/
import Derived.Test.YtmajajhbhdgngaaGrTab
import Derived.ChangeKeysEq
namespace Go.Proofs.Ytmajajhbhdgngaa
namespace Gr
open Go.RowKit

theorem allIn_at (s : Int) : ∀ (K : List Int), allIn s K = true → ∀ x ∈ K, 0 ≤ x ∧ x < s
  | [], _ => by simp
  | y :: r, h => by
    unfold allIn at h
    simp only [Bool.and_eq_true, decide_eq_true_eq] at h
    intro x hx
    rcases List.mem_cons.1 hx with rfl | hx
    · exact h.1
    · exact allIn_at s r h.2 x hx

theorem infoI : ∃ i, Try.prog.info? 3 = some i := by
  cases h : Try.prog.info? 3 with
  | some i => exact ⟨i, rfl⟩
  | none =>
    have e : (Try.prog.info? 3).isSome = true := by kernel_rfl
    rw [h] at e
    cases e

theorem worths_eq (a b c x y z : Int) (W : World) :
    (Op.equalIn 10000 61 (.agg #[.int .i64 a, .int .i64 b, .int .i64 c]) (.agg #[.int .i64 x, .int .i64 y, .int .i64 z])).run Try.prog W = .ok ((a == x) && ((b == y) && (c == z))) W := by
  obtain ⟨i, hi⟩ := infoI
  have hp : ∀ (a b c : Int) (W : World), (Go.part 3 #[.int .i64 a, .int .i64 b, .int .i64 c] (0 * Try.prog.cellsOf 3)).run Try.prog W = .ok (.int .i64 a) W ∧ (Go.part 3 #[.int .i64 a, .int .i64 b, .int .i64 c] (1 * Try.prog.cellsOf 3)).run Try.prog W = .ok (.int .i64 b) W ∧ (Go.part 3 #[.int .i64 a, .int .i64 b, .int .i64 c] (2 * Try.prog.cellsOf 3)).run Try.prog W = .ok (.int .i64 c) W :=
    fun a b c W => ⟨by kernel_rfl, by kernel_rfl, by kernel_rfl⟩
  have he : ∀ (d : Nat) (a b : Int) (W : World), (Op.equalIn (d + 1) 3 (.int .i64 a) (.int .i64 b)).run Try.prog W = .ok (a == b) W := fun d a b W => run_equalIn_int W d 3 .i64 .i64 a b Try.underlying3
  have h := run_equalIn_array W 9999 #[.int .i64 a, .int .i64 b, .int .i64 c] #[.int .i64 x, .int .i64 y, .int .i64 z] Try.underlying61 hi
  rw [show (10000 : Nat) = 9999 + 1 from rfl, h]
  have hr : List.range 3 = [0, 1, 2] := rfl
  rw [hr, show (9999 : Nat) = 9998 + 1 from rfl]
  have p0 := fun (a b c : Int) W => (hp a b c W).1
  have p1 := fun (a b c : Int) W => (hp a b c W).2.1
  have p2 := fun (a b c : Int) W => (hp a b c W).2.2
  simp only [Op.eqItems, Sem.run_bind, Sem.run_ite, p0, p1, p2, he, Result.andThen_ok, Sem.run_pure]
  cases (a == x) <;> cases (b == y) <;> cases (c == z) <;> rfl

theorem indQ_all (s : Int) (Q : List EdgeI) (K : List Int) : indQ s Q K = if indOk s Q K = true then allFrom Q 0 (K.drop 0) else [] := by
  unfold indQ
  split
  · rename_i h
    unfold indOk at h
    rw [Bool.and_eq_true] at h
    rw [List.drop_zero, all_ind h.1 h.2]
  · rfl

set_option maxRecDepth 100000 in
set_option maxHeartbeats 4000000 in
theorem implInd_any (v : Value) (B : Nat) (s : Int) (Q : List EdgeI) (a : Option Addr) (m c : Nat) (K : List Int) (h1 : Q.length ≤ 1048576) (h2 : m ≤ 1048576) (w : World) (hB : B ≤ w.heap.size) (hv : GrAt w v B s Q) (hK : IntsAt w a m B K) :
    Calls Try.prog 20 #[v, .slice a m c] w fun e w' => GrPost w (indS s Q K) (indQ s Q K) (indOk s Q K) e w' := by
  have OK := hide (fun w1 (hb : Below w.heap.size w w1) => implGraph_gen B v s Q h1 w1 (by have := hb.size; omega) (hv.below hb hB))
  have AS := hide (fun w1 (hb : Below w.heap.size w w1) => isAsc_any a m c B K h2 w1 (by have := hb.size; omega) (hK.below hb hB))
  have PL := hide (fun w1 (hb : Below w.heap.size w w1) => arePlaces_is a m c B K s h2 w1 (hK.below hb hB))
  have TB := hide (fun (hg : graphOk s Q = true) w1 (hb : Below w.heap.size w w1) => tableOf_any v B s Q hg h1 w1 (by have := hb.size; omega) (hv.below hb hB))
  have NW := hide (fun w => noWorths_any w)
  have EO := hide (fun a b y2 y3 y4 w => edgeOf_any a b y2 y3 y4 w)
  unfold w3 at NW EO
  obtain ⟨a0, n, c0, rfl, hE⟩ := hv
  obtain ⟨hLK, hcK⟩ := hK
  have HIK : Hid (indOk s Q K = (graphOk s Q && (chainFrom none K && allIn s K))) := by show _ = _; unfold indOk; rw [asc_parts]
  have HS : Hid (indS s Q K = if indOk s Q K = true then (m : Int) else 0) := by show _ = _; rw [← hLK]; rfl
  have HQ := hide (indQ_all s Q K)
  have HLEN : Hid ((indQ s Q K).length ≤ 1048576) := Nat.le_trans (indQ_length s Q K) h1
  have HIN : Hid (graphOk s Q = true → allIn s K = true → ∀ k (h : k < K.length), 0 ≤ K[k] ∧ K[k] < 9) := fun hg ha k h => by
    have e1 := allIn_at s K ha _ (List.getElem_mem h)
    have e2 := graph_sound hg
    omega
  have HROW := hide (fun x a b h => row_step Q x a b K h)
  have HALL := hide (fun a h => all_step Q a K h)
  have HEND : Hid (allFrom Q m (K.drop m) = [] ∧ ∀ x a, rowFrom Q x a m (K.drop m) = []) := by
    show _ ∧ _
    rw [← hLK, List.drop_length]
    exact ⟨rfl, fun _ _ => rfl⟩
  have HCK := hide hcK
  have HLK := hide hLK
  generalize indOk s Q K = ok at HIK HS HQ ⊢
  generalize indS s Q K = rs at HS ⊢
  generalize indQ s Q K = rq at HQ HLEN ⊢
  generalize graphOk s Q = gk at OK HIK HIN TB
  generalize chainFrom none K = ak at AS HIK
  generalize allIn s K = pk at PL HIK HIN
  obtain ⟨Z, hZ, hzv⟩ := zero_tab
  have HZ := hide hZ
  clear hZ hLK hcK hE
  go_enter Try.func20, Try.ntmps20
  go_wp2_with fail
  obtain ⟨V1, hV1⟩ : ∃ W, W = w.alloc (Obj.cells #[Value.int .i64 s, Value.slice a0 n c0] 29) := ⟨_, rfl⟩
  obtain ⟨V2, hV2⟩ : ∃ W, W = V1.alloc (Obj.cells #[Value.int .i64 0, Value.slice none 0 0] 29) := ⟨_, rfl⟩
  rw [← hV1, ← hV2]
  have z1 : V1.heap.size = w.heap.size + 1 := by rw [hV1]; simp
  have x1 : GBox V1 w.heap.size s (.slice a0 n c0) := by rw [hV1]; exact GBox.new _ _ _
  have x2 : GBox V2 w.heap.size s (.slice a0 n c0) := by rw [hV2]; exact x1.below (below_new _ _)
  have y2 : GBox V2 (w.heap.size + 1) 0 (.slice none 0 0) := by rw [hV2, ← z1]; exact GBox.new _ _ _
  have b1 : Below w.heap.size w V1 := by rw [hV1]; exact below_new _ _
  have b2 : Below w.heap.size w V2 := by rw [hV2]; exact b1.alloc b1.size _
  clear hV1 hV2 b1 x1 z1
  refine (unhide OK V2 b2).mono ?_
  rintro e w3 ⟨rfl, hb3⟩
  have x3 := x2.below hb3
  have y3 := y2.below hb3
  have b3 : Below w.heap.size w w3 := b2.trans (hb3.mono b2.size)
  clear hb3 b2 x2 y2
  cases gk with
  | false =>
    have hok := unhide HIK
    rw [Bool.false_and] at hok
    subst hok
    have ers := unhide HS
    have erq := unhide HQ
    rw [if_neg (by simp)] at ers erq
    subst ers erq
    have HY4 := hide y3
    obtain ⟨t0, t1⟩ := y3.cells
    have tf := y3.froz
    have hk5 : Kept (fun k => k = w.heap.size + 1) w3 ((w3.setCell ⟨w.heap.size + 1, 0, none⟩ (.int .i64 0)).setCell ⟨w.heap.size + 1, 1, none⟩ (.slice none 0 0)) :=
      (Kept.set (S := fun k => k = w.heap.size + 1) _ _ _ _ rfl).trans (Kept.set (S := fun k => k = w.heap.size + 1) _ _ _ _ rfl)
    have HB5 := hide (b3.trans (hk5.below b3.size (fun i hi => by omega)))
    clear x3 y3 HS HQ HIK hk5 b3
    go_wp2
    (try simp only [Exit.inBlock, Exit.then])
    refine bodyPost_ret (results_graph Try.results20 _ _ (w.heap.size + 1) _ _ rfl ((unhide HY4).two 0 (.slice none 0 0))) rfl ?_
    exact ⟨⟨_, rfl, grNil _ _⟩, unhide HB5⟩
  | true =>
    rw [Bool.true_and] at HIK
    obtain ⟨p0, p1⟩ := x3.cells
    go_wp2_with fail
    refine (unhide AS w3 b3).mono ?_
    rintro e w4 ⟨rfl, hb4⟩
    have x4 := x3.below hb4
    have y4 := y3.below hb4
    have b4 : Below w.heap.size w w4 := b3.trans (hb4.mono b3.size)
    clear hb4 b3 x3 y3 p0 p1
    cases ak with
    | false =>
      have hok := unhide HIK
      rw [Bool.false_and] at hok
      subst hok
      have ers := unhide HS
      have erq := unhide HQ
      rw [if_neg (by simp)] at ers erq
      subst ers erq
      have HY4 := hide y4
      obtain ⟨t0, t1⟩ := y4.cells
      have tf := y4.froz
      have hk5 : Kept (fun k => k = w.heap.size + 1) w4 ((w4.setCell ⟨w.heap.size + 1, 0, none⟩ (.int .i64 0)).setCell ⟨w.heap.size + 1, 1, none⟩ (.slice none 0 0)) :=
        (Kept.set (S := fun k => k = w.heap.size + 1) _ _ _ _ rfl).trans (Kept.set (S := fun k => k = w.heap.size + 1) _ _ _ _ rfl)
      have HB5 := hide (b4.trans (hk5.below b4.size (fun i hi => by omega)))
      clear x4 y4 HS HQ HIK hk5 b4
      go_wp2
      (try simp only [Exit.inBlock, Exit.then])
      refine bodyPost_ret (results_graph Try.results20 _ _ (w.heap.size + 1) _ _ rfl ((unhide HY4).two 0 (.slice none 0 0))) rfl ?_
      exact ⟨⟨_, rfl, grNil _ _⟩, unhide HB5⟩
    | true =>
      rw [Bool.true_and] at HIK
      obtain ⟨p0, p1⟩ := x4.cells
      go_wp2_with fail
      refine (unhide PL w4 b4).mono ?_
      rintro e w5 ⟨rfl, rfl⟩
      cases pk with
      | false =>
        have hok := unhide HIK
        subst hok
        have ers := unhide HS
        have erq := unhide HQ
        rw [if_neg (by simp)] at ers erq
        subst ers erq
        have HY4 := hide y4
        obtain ⟨t0, t1⟩ := y4.cells
        have tf := y4.froz
        have hk5 : Kept (fun k => k = w.heap.size + 1) w5 ((w5.setCell ⟨w.heap.size + 1, 0, none⟩ (.int .i64 0)).setCell ⟨w.heap.size + 1, 1, none⟩ (.slice none 0 0)) :=
          (Kept.set (S := fun k => k = w.heap.size + 1) _ _ _ _ rfl).trans (Kept.set (S := fun k => k = w.heap.size + 1) _ _ _ _ rfl)
        have HB5 := hide (b4.trans (hk5.below b4.size (fun i hi => by omega)))
        clear x4 y4 HS HQ HIK hk5 b4
        go_wp2
        (try simp only [Exit.inBlock, Exit.then])
        refine bodyPost_ret (results_graph Try.results20 _ _ (w.heap.size + 1) _ _ rfl ((unhide HY4).two 0 (.slice none 0 0))) rfl ?_
        exact ⟨⟨_, rfl, grNil _ _⟩, unhide HB5⟩
      | true =>
        have hok := unhide HIK
        subst hok
        have ers := unhide HS
        have erq := unhide HQ
        rw [if_pos rfl] at ers erq
        subst ers
        have HT0 : Hid (rq = [] ++ allFrom Q 0 (K.drop 0)) := erq
        have HI9 := hide (unhide HIN (by first | rfl | trivial) (by first | rfl | trivial))
        clear erq HS HQ HIK HIN
        go_wp2_with fail
        refine (unhide TB (by first | rfl | trivial) w5 b4).mono ?_
        rintro e w6 ⟨⟨C, rfl, hC⟩, hb6⟩
        have x6 := x4.below hb6
        have y6 := y4.below hb6
        have b6 : Below w.heap.size w w6 := b4.trans (hb6.mono b4.size)
        have HCT := hide hC
        clear hb6 b4 x4 y4 p0 p1 hC TB OK AS PL
        have ht : Hid ((w6.alloc (Obj.cells Z 67)).there w6.heap.size 0 C.size) := by
          have h := there_block (heap_alloc_new w6 (Obj.cells Z 67))
          rw [(unhide HZ).1] at h
          show (w6.alloc _).there _ _ _
          rw [(unhide HCT).1]
          exact h
        have hi2 : Hid ((Try.prog.info? 67).map (·.size) = some C.size) := by show _ = _; rw [infoTable, (unhide HCT).1]
        have h1' := hide (unhide HCT).one
        go_wp2_with (refine wpList_store_mid rfl 67 _ _ rfl w6.heap.size 0 C rfl rfl (unhide ht) (unhide hi2) (unhide h1') ?_)
        have HAT : Hid (∀ k, k < 243 → (((w6.alloc (Obj.cells Z 67)).setCells w6.heap.size 0 C.toList).cell? ⟨w6.heap.size, k, none⟩ = some (.int .i64 (tabF Q k)))) := fun k hk => by
          have h := World.rangeAt_setCells_same (w6.alloc (Obj.cells Z 67)) w6.heap.size 0 C.toList (by rw [Array.length_toList]; exact unhide ht) k (.int .i64 (tabF Q k)) (by rw [Array.getElem?_toList]; exact (unhide HCT).2 k hk)
          rwa [Nat.zero_add] at h
        have HBS : Hid (Below w6.heap.size w6 ((w6.alloc (Obj.cells Z 67)).setCells w6.heap.size 0 C.toList)) := below_setCells _ _ (Nat.le_refl _) _ _ _ _ (below_new _ _)
        have HSZ : Hid (w6.heap.size < ((w6.alloc (Obj.cells Z 67)).setCells w6.heap.size 0 C.toList).heap.size) := World.block_lt_of_cell? _ _ (unhide HAT 0 (by omega))
        generalize ((w6.alloc (Obj.cells Z 67)).setCells w6.heap.size 0 C.toList) = W7 at HAT HBS HSZ ⊢
        have x7 := x6.below (unhide HBS)
        have y7 := y6.below (unhide HBS)
        have b7 : Below w.heap.size w W7 := b6.trans ((unhide HBS).mono b6.size)
        have hsz : w6.heap.size < W7.heap.size := unhide HSZ
        clear x6 y6 b6 HBS HSZ ht hi2 h1' HCT HZ hzv
        obtain ⟨V8, hV8⟩ : ∃ W, W = W7.alloc (Obj.cells #[Value.int .i64 (m : Int), Value.slice none 0 0] 29) := ⟨_, rfl⟩
        rw [← hV8]
        have b8 : Below W7.heap.size W7 V8 := by rw [hV8]; exact below_new _ _
        have HU8 : Hid (GBox V8 W7.heap.size (m : Int) (.slice none 0 0)) := by show GBox _ _ _ _; rw [hV8]; exact GBox.new _ _ _
        have HX7 := hide x7
        have HY7 := hide y7
        have hyl := y7.lt
        obtain ⟨ie, hie, hz0, hz1, hz2⟩ := info_parts infoEdge
        clear hV8 x7 y7
        go_loopw [35] (fun i wx => ∃ (k : Nat), i = .int .i64 (k : Int) ∧ k ≤ m ∧ Below W7.heap.size W7 wx ∧ ∃ (l : Nat) (out : List EdgeI), Hid (l = out.length) ∧ Hid (rq = out ++ allFrom Q k (K.drop k)) ∧ ∃ (A : Option Addr) (C : Nat), GBox wx W7.heap.size (m : Int) (.slice A l C) ∧ wx.ownsRow (W7.heap.size + 1) 36 5 (.slice A l C) l (edgesV out)) (fun i _ => m - (intOf i).toNat)
        case atStart => exact ⟨0, rfl, Nat.zero_le _, b8, 0, [], rfl, unhide HT0, none, 0, unhide HU8, ⟨rfl, .inl ⟨rfl, rfl⟩⟩⟩
        case round =>
          obtain ⟨k, rfl, hk, hb9, l, out, HLO, HR, A, C, u9, o9⟩ := hrel
          by_cases hlt : k < m
          · have hkL : k < K.length := by have := unhide HLK; omega
            obtain ⟨b, off, rfl, hbB, c1⟩ := unhide HCK k hkL
            have b9 : Below w.heap.size w wr := b7.trans (hb9.mono b7.size)
            rw [← b9.cell (p := ⟨b, off + k, none⟩) (by simp; omega)] at c1
            have hk9 := unhide HI9 k hkL
            have hr : Hid (rq = out ++ (rowFrom Q K[k] k (k + 1) (K.drop (k + 1)) ++ allFrom Q (k + 1) (K.drop (k + 1)))) := (unhide HR).trans (by rw [unhide HALL k hkL])
            have hx0 : (0 : Int) ≤ (k : Int) := by omega
            have hx1 : (k : Int) < (m : Int) := by omega
            have hx2 : (m : Int) ≤ 9223372036854775807 := by omega
            generalize K[k] = x at c1 hk9 hr
            obtain ⟨hp0, hp9⟩ := hk9
            obtain ⟨p, rfl⟩ := Int.eq_ofNat_of_zero_le hp0
            have HU9 := hide u9
            have HO9 := hide o9
            clear u9 o9 HR
            obtain ⟨W9, rfl⟩ : ∃ x, x = wr := ⟨wr, rfl⟩
            go_wp2_with fail
            go_loopw [10] (fun i wx => ∃ (t : Nat), i = .int .i64 (t : Int) ∧ k < t ∧ t ≤ m ∧ Below W7.heap.size W7 wx ∧ ∃ (l : Nat) (out : List EdgeI), Hid (l = out.length) ∧ Hid (rq = out ++ (rowFrom Q (p : Int) k t (K.drop t) ++ allFrom Q (k + 1) (K.drop (k + 1)))) ∧ ∃ (A : Option Addr) (C : Nat), GBox wx W7.heap.size (m : Int) (.slice A l C) ∧ wx.ownsRow (W7.heap.size + 1) 36 5 (.slice A l C) l (edgesV out)) (fun i _ => m - (intOf i).toNat)
            case atStart => exact ⟨k + 1, by go_num, by omega, by omega, hb9, l, out, HLO, hr, A, C, unhide HU9, unhide HO9⟩
            case round =>
              clear HLO hr HU9 HO9 c1 b9 hb9
              obtain ⟨t, rfl, hkt, ht, hb10, l, out, HLO, HR, A, C, u10, o10⟩ := hrel
              by_cases hlt2 : t < m
              · have htL : t < K.length := by have := unhide HLK; omega
                obtain ⟨b', off', e', _, c1⟩ := unhide HCK t htL
                simp at e'
                obtain ⟨rfl, rfl⟩ := e'
                have b10 : Below w.heap.size w wr := b7.trans (hb10.mono b7.size)
                rw [← b10.cell (p := ⟨b, off + t, none⟩) (by simp; omega)] at c1
                have ht9 := unhide HI9 t htL
                have hr : Hid (rq = out ++ ((tabE Q (p : Int) k K[t] t ++ rowFrom Q (p : Int) k (t + 1) (K.drop (t + 1))) ++ allFrom Q (k + 1) (K.drop (k + 1)))) := (unhide HR).trans (by rw [unhide HROW (p : Int) k t htL])
                have hw0 : (0 : Int) ≤ (t : Int) := by omega
                have hw1 : (t : Int) < (m : Int) := by omega
                generalize K[t] = y at c1 ht9 hr
                obtain ⟨hq0, hq9⟩ := ht9
                obtain ⟨q, rfl⟩ := Int.eq_ofNat_of_zero_le hq0
                have htl := tab_look Q p q (by omega)
                have d0 := unhide HAT (p * 27 + q * 3) (by omega)
                have d1 := unhide HAT (p * 27 + q * 3 + 1) (by omega)
                have d2 := unhide HAT (p * 27 + q * 3 + 2) (by omega)
                rw [← hb10.cell (p := ⟨w6.heap.size, p * 27 + q * 3, none⟩) hsz, htl.1] at d0
                rw [← hb10.cell (p := ⟨w6.heap.size, p * 27 + q * 3 + 1, none⟩) hsz, htl.2.1] at d1
                rw [← hb10.cell (p := ⟨w6.heap.size, p * 27 + q * 3 + 2, none⟩) hsz, htl.2.2] at d2
                have hte : tabE Q (p : Int) k (q : Int) t = if tab Q (p : Int) (q : Int) = (-1, -1, -1) then [] else [⟨(k : Int), (t : Int), (tab Q (p : Int) (q : Int)).1, (tab Q (p : Int) (q : Int)).2.1, (tab Q (p : Int) (q : Int)).2.2⟩] := rfl
                generalize tabE Q (p : Int) k (q : Int) t = te at hr hte
                generalize tab Q (p : Int) (q : Int) = tt at d0 d1 d2 hte
                obtain ⟨r0, r1, r2⟩ := tt
                simp only at d0 d1 d2 hte
                have HU10 := hide u10
                have HO10 := hide o10
                have hul := u10.lt
                have hbl : b < wr.heap.size := by have := b10.size; omega
                have hsl : w6.heap.size < wr.heap.size := by omega
                clear u10 o10 HR htl
                go_upto_region 11 with fail
                go_region_held3 (fun u => u.cell? ⟨b, off + t, none⟩ = some (.int .i64 (q : Int)) ∧ u.cell? ⟨w6.heap.size, p * 27 + q * 3, none⟩ = some (.int .i64 r0) ∧ u.cell? ⟨w6.heap.size, p * 27 + q * 3 + 1, none⟩ = some (.int .i64 r1) ∧ u.cell? ⟨w6.heap.size, p * 27 + q * 3 + 2, none⟩ = some (.int .i64 r2))
                  (first | go_keep) (fail)
                obtain ⟨V11, hV11⟩ : ∃ W, W = (wr.alloc (Obj.cells #[Value.int .i64 r0, Value.int .i64 r1, Value.int .i64 r2] 61)).drew := ⟨_, rfl⟩
                rw [← hV11]
                have z11 : V11.heap.size = wr.heap.size + 1 := by rw [hV11]; show (wr.alloc _).heap.size = _; simp
                have e11 : V11.heap[wr.heap.size]? = some (.cells #[Value.int .i64 r0, Value.int .i64 r1, Value.int .i64 r2] 61 (0, 0)) := by rw [hV11]; exact heap_alloc_new wr _
                have hn11 : Below wr.heap.size wr V11 := by rw [hV11]; exact (below_new _ _).drew
                have HB11 : Hid (Below W7.heap.size W7 V11) := hb10.trans (hn11.mono hb10.size)
                have HU11 := hide ((unhide HU10).below hn11)
                have HO11 := hide (own_below (unhide HO10) hn11)
                have k0 : ∀ d : Grown V11.heap.size V11, d.w.cell? ⟨wr.heap.size, 0, none⟩ = some (.int .i64 r0) := fun d => d.cell (by omega) (by rw [cell_of_row V11 wr.heap.size 0 _ 61 (0, 0) e11]; rfl)
                have k1 : ∀ d : Grown V11.heap.size V11, d.w.cell? ⟨wr.heap.size, 1, none⟩ = some (.int .i64 r1) := fun d => d.cell (by omega) (by rw [cell_of_row V11 wr.heap.size 1 _ 61 (0, 0) e11]; rfl)
                have k2 : ∀ d : Grown V11.heap.size V11, d.w.cell? ⟨wr.heap.size, 2, none⟩ = some (.int .i64 r2) := fun d => d.cell (by omega) (by rw [cell_of_row V11 wr.heap.size 2 _ 61 (0, 0) e11]; rfl)
                clear hV11 hn11 HU10 HO10 hb10 b10 d0 d1 d2 c1
                go_upto_region 12 with fail
                refine wp_region_grown V11.heap.size (by kernel_rfl) (by kernel_rfl) ?_
                go_big_quiet_step (first | (go_at_call 41; exact Calls.grown (Nat.le_refl _) (unhide NW _)))
                go_big_quiet_step (first | (go_at_call 41; exact Calls.grown (Nat.le_refl _) (unhide NW _)))
                by_cases h3 : (r0, r1, r2) = ((-1 : Int), (-1 : Int), (-1 : Int))
                · rw [if_pos h3] at hte
                  subst hte
                  simp only [Prod.mk.injEq] at h3
                  obtain ⟨rfl, rfl, rfl⟩ := h3
                  have hq3 : ∀ W : World, (Op.equalIn 10000 61 (.agg #[.int .i64 (-1), .int .i64 (-1), .int .i64 (-1)]) (.agg #[.int .i64 (-1), .int .i64 (-1), .int .i64 (-1)])).run Try.prog W = .ok true W := fun W => worths_eq _ _ _ _ _ _ W
                  go_big_quiet_step (fail)
                  refine wpQuiet_nil ?_
                  rintro w12 ⟨d12, rfl⟩
                  have HB12 := hide ((unhide HB11).trans (d12.below.mono (unhide HB11).size))
                  have HU12 := hide ((unhide HU11).below d12.below)
                  have HO12 := hide (own_below (unhide HO11) d12.below)
                  clear HB11 HU11 HO11
                  go_wp2
                  go_roundw
                  case rel => exact ⟨t + 1, by go_num, by omega, by omega, unhide HB12, l, out, HLO, unhide hr, A, C, unhide HU12, unhide HO12⟩
                  case measure => simp [intOf]; omega
                · rw [if_neg h3] at hte
                  subst hte
                  have hq3 : ∀ W : World, (Op.equalIn 10000 61 (.agg #[.int .i64 r0, .int .i64 r1, .int .i64 r2]) (.agg #[.int .i64 (-1), .int .i64 (-1), .int .i64 (-1)])).run Try.prog W = .ok false W := fun W => by
                    rw [worths_eq]
                    have e : ((r0 == -1) && ((r1 == -1) && (r2 == -1))) = false := by
                      cases he : ((r0 == -1) && ((r1 == -1) && (r2 == -1))) with
                      | false => rfl
                      | true =>
                        simp only [Bool.and_eq_true, beq_iff_eq] at he
                        exact absurd (by rw [he.1, he.2.1, he.2.2]) h3
                    rw [e]
                  go_big_quiet_step (fail)
                  refine wpQuiet_nil ?_
                  rintro w12 ⟨d12, rfl⟩
                  have HB12 := hide ((unhide HB11).trans (d12.below.mono (unhide HB11).size))
                  have HU12 := hide ((unhide HU11).below d12.below)
                  have HO12 := hide (own_below (unhide HO11) d12.below)
                  have c0 := k0 d12
                  have c1 := k1 d12
                  have c2 := k2 d12
                  obtain ⟨W12, hW12⟩ : ∃ W, W = d12.w := ⟨_, rfl⟩
                  rw [← hW12] at HB12 HU12 HO12 c0 c1 c2 ⊢
                  clear hW12 k0 k1 k2 HB11 HU11 HO11 hq3 h3
                  have hlb : l ≤ 1048576 := by
                    have e1 := unhide HLEN
                    rw [unhide hr, List.length_append] at e1
                    have e2 := unhide HLO
                    omega
                  obtain ⟨y0, y1⟩ := (unhide HU12).cells
                  have hlt1 := (unhide HU12).lt
                  have HOD := hide ((unhide HO12).drew)
                  have hne : (Value.slice A l C).ownBlock ≠ some W7.heap.size := fun e => by have := (unhide HO12).lt _ e; omega
                  have hjm : l + 1 ≤ maxLen := by unfold maxLen; omega
                  have HEO := hide (unhide EO (k : Int) (t : Int) r0 r1 r2)
                  unfold EdgeI.v at HEO
                  simp only at HEO
                  go_wp2_with fail
                  go_region_law
                    (first
                      | (refine step_call (by rfl) 42 _ _ (by rfl) #[.int .i64 (k : Int), .int .i64 (t : Int), .agg #[.int .i64 r0, .int .i64 r1, .int .i64 r2]] (by first | rfl | (simp [Act.eval]; done) | (simp [Act.put]; done)) enterEdgeOf _ (unhide HEO _) ?_; rintro e w13 ⟨rfl, hb13⟩; refine ⟨_, rfl, ?_⟩; have hown13 := own_below (unhide HOD) hb13; have HU13 := hide ((unhide HU12).below ((Below.refl _ _).drew.trans hb13)); have s0 := (unhide HU13).cells.2; have hlt2 := (unhide HU13).lt; have s1 := ((below_new w13 (Obj.cells #[.int .i64 (k : Int), .int .i64 (t : Int), .int .i64 r0, .int .i64 r1, .int .i64 r2] 36)).cell (p := ⟨W7.heap.size, 1, none⟩) hlt2).trans s0; have hb01 : Below W7.heap.size W7 w13 := (unhide HB12).drew.trans (hb13.mono (by show _ ≤ W12.heap.size; omega)))
                      | (refine step_append_lies _ (by rfl) _ _ _ (by rfl) (W7.heap.size + 1) 36 ie _ 5 40 Try.underlying27 hie hz0 hz1 hz2 rfl (by omega) (.slice A l C) l (edgesV out) (by rfl) (by first | exact hown13.alloc _ | exact (hown13.alloc _).drew) ⟨w13.heap.size, 0, none⟩ 1 1 [.int .i64 (k : Int), .int .i64 (t : Int), .int .i64 r0, .int .i64 r1, .int .i64 r2] (by rfl) (by rfl) (news_edge _ _ _ _ _ _ _) (edge_one _ _ _ _ _) (by omega) hjm (by omega) (by simp; omega) (w13.heap.size + 1) (by simp) ?_; intro g cap w14 hown14 hgrow14 hat14 hlt14; have HU14 := hide (((unhide HU13).below (below_new w13 (Obj.cells #[.int .i64 (k : Int), .int .i64 (t : Int), .int .i64 r0, .int .i64 r1, .int .i64 r2] 36))).kept (Kept.of_grown hgrow14) (fun e => hne e)); have t0 := (unhide HU14).cells.2; have tf := (unhide HU14).froz 1))
                  all_goals
                    have hg3 := (hown14.lt g rfl).1
                    have hsn : edgesV out ++ [.int .i64 (k : Int), .int .i64 (t : Int), .int .i64 r0, .int .i64 r1, .int .i64 r2] = edgesV (out ++ [⟨(k : Int), (t : Int), r0, r1, r2⟩]) := (edgesV_snoc out ⟨(k : Int), (t : Int), r0, r1, r2⟩).symm
                    rw [hsn] at hown14
                    have hk15 : Kept (fun i => i = W7.heap.size) w14 (w14.setCell ⟨W7.heap.size, 1, none⟩ (.slice (some ⟨g, 0, none⟩) (l + 1) cap)) := Kept.set (S := fun i => i = W7.heap.size) _ _ _ _ rfl
                    have HO15 := hide (hk15.own hown14 (fun g' hg e => by have := (hown14.lt g' hg).1; omega))
                    have HU15 := hide ((unhide HU14).one (.slice (some ⟨g, 0, none⟩) (l + 1) cap))
                    have hb14 : Below W7.heap.size W7 w14 := (hb01.alloc hb01.size _).grown hgrow14 (by have := hb01.size; simp; omega) (fun k hk => by have := hown13.lt k hk; omega)
                    have HB15 := hide (hb14.trans (hk15.below hb14.size (fun i hi => by omega)))
                    have HL15 : Hid (l + 1 = (out ++ [(⟨(k : Int), (t : Int), r0, r1, r2⟩ : EdgeI)]).length) := by show _ = _; rw [List.length_append, ← unhide HLO]; rfl
                    have HR15 : Hid (rq = (out ++ [⟨(k : Int), (t : Int), r0, r1, r2⟩]) ++ (rowFrom Q (p : Int) k (t + 1) (K.drop (t + 1)) ++ allFrom Q (k + 1) (K.drop (k + 1)))) := by show _ = _; rw [unhide hr]; simp
                    clear hown14 hgrow14 hat14 hb01 hown13 s0 s1 t0 tf hlt14 hb13 HU14 HU13 HOD HO12 HU12 hne hjm hk15 hb14 y0 y1 c0 c1 c2 hsn hr
                    go_wp2
                    go_roundw
                    case rel => exact ⟨t + 1, by go_num, by omega, by omega, unhide HB15, l + 1, out ++ [⟨(k : Int), (t : Int), r0, r1, r2⟩], HL15, HR15, some ⟨g, 0, none⟩, cap, unhide HU15, unhide HO15⟩
                    case measure => simp [intOf]; omega
              · obtain htm : t = m := by omega
                have HRN : Hid (rq = out ++ allFrom Q (k + 1) (K.drop (k + 1))) := by show _ = _; rw [unhide HR, htm, (unhide HEND).2, List.nil_append]
                have HU10 := hide u10
                have HO10 := hide o10
                clear u10 o10 HR
                go_wp2
                go_roundw
                case rel => exact ⟨k + 1, by go_num, by omega, hb10, l, out, HLO, HRN, A, C, unhide HU10, unhide HO10⟩
                case measure => simp [intOf]; omega
          · have hkm : k = m := by omega
            have hr := unhide HR
            rw [hkm, (unhide HEND).1, List.append_nil] at hr
            subst hr
            have y9 := (unhide HY7).below hb9
            have HY9 := hide y9
            have HU9 := hide u9
            have HO9 := hide o9
            obtain ⟨t0, t1⟩ := y9.cells
            have tf := y9.froz
            obtain ⟨q0, q1⟩ := u9.cells
            have hyl9 := y9.lt
            have b9 : Below w.heap.size w wr := b7.trans (hb9.mono b7.size)
            clear HR o9 u9 y9
            go_wp2
            (try simp only [Exit.inBlock, Exit.then])
            have hk10 : Kept (fun i => i = w.heap.size + 1) wr ((wr.setCell ⟨w.heap.size + 1, 0, none⟩ (.int .i64 (m : Int))).setCell ⟨w.heap.size + 1, 1, none⟩ (.slice A l C)) :=
              (Kept.set (S := fun i => i = w.heap.size + 1) _ _ _ _ rfl).trans (Kept.set (S := fun i => i = w.heap.size + 1) _ _ _ _ rfl)
            refine bodyPost_ret (results_graph Try.results20 _ _ (w.heap.size + 1) _ _ rfl ((unhide HY9).two (m : Int) (.slice A l C))) rfl ?_
            refine ⟨⟨_, rfl, _, rfl, ?_⟩, b9.trans (hk10.below b9.size (fun i hi => by omega))⟩
            rw [← unhide HLO]
            exact own_lower (by have := b7.size; omega) (hk10.own (unhide HO9) (fun g hg e => by have := (unhide HO9).lt g hg; omega))

theorem implInd_gen (B : Nat) (v : Value) (s : Int) (Q : List EdgeI) (u : Value) (K : List Int) (h1 : Q.length ≤ 1048576) (h2 : K.length ≤ 1048576) (w : World) (hB : B ≤ w.heap.size) (hv : GrAt w v B s Q) (hu : InAt w u B K) :
    Calls Try.prog 20 #[v, u] w fun e w' => (∃ d, e = .returned (.tuple #[d, .bool (indOk s Q K)]) ∧ GrOwn w' w.heap.size d (indS s Q K) (indQ s Q K)) ∧ Below w.heap.size w w' := by
  obtain ⟨a, c, rfl, hK⟩ := hu
  exact implInd_any v B s Q a K.length c K h1 h2 w hB hv hK
end Gr
end Go.Proofs.Ytmajajhbhdgngaa
