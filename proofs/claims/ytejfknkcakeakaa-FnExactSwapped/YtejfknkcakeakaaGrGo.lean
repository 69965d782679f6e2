/-
  The contract of the function that goes through all pairings edge by edge and tells their sums.
-/
import Derived.Test.YtejfknkcakeakaaGrFlags
import Derived.Test.YtejfknkcakeakaaGrImplE
import Derived.Laws.EntriesVeiled
namespace Go.Proofs.Ytejfknkcakeakaa
namespace Gr
open Go.RowKit

/-- Sums and pairings told behind them. -/
def shift (s : SumsI) (E : SumsI × Int) : SumsI × Int := (plus s E.1, E.2)

theorem shift_comb (s : SumsI) (A X : SumsI × Int) : shift s (comb A X) = comb (shift s A) (shift s X) := by
  unfold shift comb
  simp only
  rw [plus_mx]

theorem shift_add (s : SumsI) (e : EdgeI) (E : SumsI × Int) : shift (addS s e) E = shift s (addP E e) := by
  unfold shift addP
  simp only
  rw [plus_add]

theorem shift_step (st A E : SumsI × Int) (s : SumsI) (e : EdgeI) : comb (comb st (shift (addS s e) E)) (shift s A) = comb st (shift s (comb A (addP E e))) := by
  rw [shift_comb, shift_add, comb_assoc, comb_comm (shift s A)]

theorem zero_le_each : ∀ (r : List EdgeI) (U : List Int), LE ⟨0, 0, 0⟩ (each r U).1
  | [], _ => LE.refl _
  | e :: r, U => (zero_le_each r U).trans (each_mono e r U)

theorem le_shift (s : SumsI) (r : List EdgeI) (U : List Int) : LE s (shift s (each r U)).1 := by
  have h := plus_le (s := s).2 (zero_le_each r U)
  rw [plus_zero] at h
  exact h

theorem comb_cancel {a b : SumsI × Int} {s : SumsI} (h : comb a (s, 1) = comb b (s, 1)) (ha : LE s a.1) (hb : LE s b.1) : a = b := by
  have h1 : mx a.1 s = mx b.1 s := congrArg Prod.fst h
  have h2 : a.2 + 1 = b.2 + 1 := congrArg Prod.snd h
  rw [mx_of_ge ha, mx_of_ge hb] at h1
  exact Prod.ext h1 (by omega)

/-- What goOn stands on: who is told, the graph, goOn itself. -/
def GoEnv (T bs bt bg bi bo B : Nat) (s : Int) (a : Option Addr) (n c : Nat) (Q : List EdgeI) (w : World) : Prop :=
  Blk w bt #[.func (.func T) #[] #[.pointer (some ⟨bs, 0, none⟩)]] 108 ∧ GBox w bg s (.slice a n c) ∧
  Blk w bo #[.func (.func 85) #[] #[.pointer (some ⟨bt, 0, none⟩), .pointer (some ⟨bg, 0, none⟩), .pointer (some ⟨bi, 0, none⟩), .pointer (some ⟨bo, 0, none⟩)]] 115 ∧
  edgesAt w a n B Q

theorem GoEnv.kept {S : Nat → Prop} {T bs bt bg bi bo B : Nat} {s : Int} {a : Option Addr} {n c : Nat} {Q : List EdgeI} {w w' : World} (h : GoEnv T bs bt bg bi bo B s a n c Q w) (hk : Kept S w w') (hB : B ≤ w.heap.size) (hS : ∀ i, S i → B ≤ i) (h1 : ¬ S bt) (h2 : ¬ S bg) (h3 : ¬ S bo) : GoEnv T bs bt bg bi bo B s a n c Q w' :=
  ⟨h.1.kept hk h1, h.2.1.kept hk h2, h.2.2.1.kept hk h3, hk.edges h.2.2.2 hB hS⟩

/-- Who is told takes the sums in. -/
def Tells (T bs : Nat) (enc : SumsI × Int → Array Value) (ty : TypeId) : Prop :=
  (∀ (vs : Array Value) (w : World), (callFunc T vs).run Try.prog w = .ok (.enter T vs) w) ∧ ∀ (st : SumsI × Int) (s : SumsI) (w : World), Blk w bs (enc st) ty → 0 ≤ st.2 → st.2 < 1000000000 →
    Calls Try.prog T #[s.v, .pointer (some ⟨bs, 0, none⟩)] w fun e w' => e = .returned (.tuple #[]) ∧ Blk w' bs (enc (comb st (s, 1))) ty ∧ Kept (fun k => k = bs) w w'

/-- goOn's contract, from its last m edges on. -/
def GoC (T bs bt bg bi bo B : Nat) (enc : SumsI × Int → Array Value) (ty : TypeId) (g : Int) (a : Option Addr) (n c : Nat) (Q : List EdgeI) (m : Nat) : Prop :=
  ∀ (i : Nat) (s : SumsI) (U : List Int) (st : SumsI × Int) (w : World), n < i + m → i ≤ n → GoEnv T bs bt bg bi bo B g a n c Q w → Blk w bi (flags U) 109 → Blk w bs (enc st) ty → B ≤ w.heap.size →
    SB s (i : Int) → 0 ≤ st.2 → st.2 + (each (Q.drop i) U).2 ≤ 1000000000 →
    Calls Try.prog 85 #[.int .i64 (i : Int), s.v, .pointer (some ⟨bt, 0, none⟩), .pointer (some ⟨bg, 0, none⟩), .pointer (some ⟨bi, 0, none⟩), .pointer (some ⟨bo, 0, none⟩)] w
      fun e w' => e = .returned (.tuple #[]) ∧ Blk w' bi (flags U) 109 ∧ Blk w' bs (enc (comb st (shift s (each (Q.drop i) U)))) ty ∧ Kept (fun k => k = bi ∨ k = bs) w w'

set_option maxRecDepth 100000 in
set_option maxHeartbeats 4000000 in
theorem go_step {T bs bt bg bi bo B : Nat} {enc : SumsI × Int → Array Value} {ty : TypeId} {g : Int} {a : Option Addr} {n c : Nat} {Q : List EdgeI} {m : Nat}
    (hT : Tells T bs enc ty) (hok : ∀ e ∈ Q, edgeOk 9 e = true) (hQn : Q.length ≤ 1048576) (hd : bi ≠ bs ∧ bt ≠ bi ∧ bt ≠ bs ∧ bg ≠ bi ∧ bg ≠ bs ∧ bo ≠ bi ∧ bo ≠ bs) (hBi : B ≤ bi) (hBs : B ≤ bs)
    (IH : GoC T bs bt bg bi bo B enc ty g a n c Q m) : GoC T bs bt bg bi bo B enc ty g a n c Q (m + 1) := by
  intro i0 s U st w hm hi hE hF hS hB hs h0 h9
  have HIH := hide IH
  have HT := hide hT
  have HOK := hide hok
  have hpos := each_pos (Q.drop i0) U
  obtain ⟨hl, hc⟩ := hE.2.2.2
  have HE := hide hE
  have HC := hide hc
  have HS := hide hs
  have HST := hide hS
  have HFL := hide hF
  clear hE hc hF hS IH hT hok hs
  obtain ⟨r, hr⟩ : ∃ r, r = each (Q.drop i0) U := ⟨_, rfl⟩
  obtain ⟨f, hf⟩ : ∃ f, f = comb st (shift s r) := ⟨_, rfl⟩
  rw [← hr] at h9 hpos ⊢
  rw [← hf]
  have HR := hide hr
  have HF := hide hf
  clear hr hf
  obtain ⟨s1, s2, s3⟩ := s
  unfold SumsI.v
  simp only
  have e1 : w.cell? ⟨bt, 0, none⟩ = some (.func (.func T) #[] #[.pointer (some ⟨bs, 0, none⟩)]) := (unhide HE).1.cell 0 _ rfl
  have hbt := (unhide HE).1.lt
  have hnt : ¬ bt = w.heap.size := by omega
  go_enter Try.func85, Try.ntmps85
  go_wp2_with fail
  rw [(unhide HT).1]
  go_wp2_with fail
  obtain ⟨V1, hV1⟩ : ∃ W, W = w.alloc (Obj.cells #[Value.int .i64 s1, Value.int .i64 s2, Value.int .i64 s3] 78) := ⟨_, rfl⟩
  rw [← hV1]
  have b1 : Below w.heap.size w V1 := by rw [hV1]; exact below_new _ _
  have u1 : Blk V1 w.heap.size #[Value.int .i64 s1, Value.int .i64 s2, Value.int .i64 s3] 78 := by rw [hV1]; exact Blk.new0
  have k1 : Kept (fun k => k = bi ∨ k = bs) w V1 := Kept.of_below b1
  clear hV1
  go_fit ((unhide HT).2 st ⟨s1, s2, s3⟩ V1 ((unhide HST).below b1) h0 (by omega))
  rintro e w2 ⟨rfl, hS2, k2⟩
  have hbsl := (unhide HST).lt
  have hbil := (unhide HFL).lt
  have u2 : Blk w2 w.heap.size #[Value.int .i64 s1, Value.int .i64 s2, Value.int .i64 s3] 78 := u1.kept k2 (by omega)
  have kk2 : Kept (fun k => k = bi ∨ k = bs) w w2 := k1.trans (k2.weak (fun i h => Or.inr h))
  have HE2 : Hid (GoEnv T bs bt bg bi bo B g a n c Q w2) := (unhide HE).kept kk2 hB (fun i h => by rcases h with h | h <;> omega) (by omega) (by omega) (by omega)
  have hF2 : Blk w2 bi (flags U) 109 := ((unhide HFL).below b1).kept k2 (by omega)
  have HF2 := hide hF2
  have HS2 := hide hS2
  have hz2 := kk2.2.2.2.1
  have hz2' := u2.lt
  clear k1 k2 u1 b1 hF2 hS2
  go_wp2_with fail
  go_loopw [8] (fun i wr => ∃ (j : Nat) (st' : SumsI × Int), i = .int .i64 (j : Int) ∧ i0 ≤ j ∧ j ≤ n ∧ Hid (comb st' (shift ⟨s1, s2, s3⟩ (each (Q.drop j) U)) = comb f (⟨s1, s2, s3⟩, 1)) ∧ Hid (LE ⟨s1, s2, s3⟩ st'.1) ∧ 0 ≤ st'.2 ∧ Hid (Blk wr bi (flags U) 109) ∧ Hid (Blk wr bs (enc st') ty) ∧ Kept (fun k => k = bi ∨ k = bs) w2 wr) (fun i _ => n - (intOf i).toNat)
  case atStart => exact ⟨i0, comb st (⟨s1, s2, s3⟩, 1), rfl, Nat.le_refl _, hi, by
      show _ = _
      rw [← unhide HR, unhide HF, comb_assoc, comb_comm (⟨s1, s2, s3⟩, 1), ← comb_assoc], le_mx_right _ _, by show 0 ≤ st.2 + 1; omega, unhide HF2, unhide HS2, Kept.refl _ _⟩
  case round =>
    obtain ⟨j, st', rfl, hij, hj, HRL, HLE, hst0, HFr, HSr, kr⟩ := hrel
    have HEr : Hid (GoEnv T bs bt bg bi bo B g a n c Q wr) := (unhide HE2).kept kr (by omega) (fun i h => by rcases h with h | h <;> omega) (by omega) (by omega) (by omega)
    have hzr := kr.2.2.2.1
    have ur := u2.kept kr (by omega)
    obtain ⟨p0, p1⟩ := (unhide HEr).2.1.cells
    have hgl := (unhide HEr).2.1.lt
    by_cases hlt : j < n
    · have hjL : j < Q.length := by omega
      have HN := hide (each_drop Q U j hjL)
      have HEO := hide ((edgeOk_iff 9 _).1 (unhide HOK Q[j] (List.getElem_mem hjL)))
      have HEK := hide (unhide HOK Q[j] (List.getElem_mem hjL))
      obtain ⟨b, off, rfl, hbB, c0, c1, c2, c3, c4⟩ := (unhide HEr).2.2.2.2 j hjL
      generalize Q[j] = e at HN HEO HEK c0 c1 c2 c3 c4
      obtain ⟨y0, y1, y2, y3, y4⟩ := e
      simp only at c0 c1 c2 c3 c4
      obtain ⟨q0, q1, q2, q3, q4, q5⟩ := unhide HEO
      simp only at q0 q1 q2 q3 q4 q5
      have q3' := worth_range q3
      have q4' := worth_range q4
      have q5' := worth_range q5
      clear q3 q4 q5
      obtain ⟨x0, rfl⟩ := Int.eq_ofNat_of_zero_le q0
      obtain ⟨x1, rfl⟩ := Int.eq_ofNat_of_zero_le (show 0 ≤ y1 by omega)
      have f0 : wr.cell? ⟨bi, x0, none⟩ = some (.bool (inK U (x0 : Int))) := (unhide HFr).cell x0 _ (flags_at U x0 (by omega))
      have f1 : wr.cell? ⟨bi, x1, none⟩ = some (.bool (inK U (x1 : Int))) := (unhide HFr).cell x1 _ (flags_at U x1 (by omega))
      have hbil' := (unhide HFr).lt
      have hbsl' := (unhide HSr).lt
      have hbol' := (unhide HEr).2.2.1.lt
      have HSJ : Hid (SB ⟨s1, s2, s3⟩ (j : Int)) := (unhide HS).mono (by omega)
      have hs1 : 0 ≤ s1 ∧ s1 ≤ 100000000 := by have := (unhide HSJ).1; simp only at this; omega
      have hs2 : 0 ≤ s2 ∧ s2 ≤ 100000000 := by have := (unhide HSJ).2.1; simp only at this; omega
      have hs3 : 0 ≤ s3 ∧ s3 ≤ 100000000 := by have := (unhide HSJ).2.2; simp only at this; omega
      have hne1 : ¬ bi = wr.heap.size := by omega
      have hne2 : ¬ bg = wr.heap.size := by omega
      have hne3 : ¬ b = wr.heap.size := by omega
      have hx09 : (x0 : Int) < 9 := by omega
      have hx19 : (x1 : Int) < 9 := by omega
      cases hu0 : inK U (x0 : Int) with
      | true =>
        rw [hu0] at f0
        go_wp2_with fail
        refine ⟨⟨j + 1, st', by go_num, by omega, by omega, ?_, unhide HLE, hst0, (unhide HFr).alloc, (unhide HSr).alloc, kr.trans (Kept.of_below (below_new _ _))⟩, by simp [intOf]; omega⟩
        show _ = _
        rw [← unhide HRL, unhide HN, if_neg (by unfold freeE; simp only; rw [hu0]; simp)]
      | false =>
        rw [hu0] at f0
        cases hu1 : inK U (x1 : Int) with
        | true =>
          rw [hu1] at f1
          go_wp2_with fail
          refine ⟨⟨j + 1, st', by go_num, by omega, by omega, ?_, unhide HLE, hst0, (unhide HFr).alloc, (unhide HSr).alloc, kr.trans (Kept.of_below (below_new _ _))⟩, by simp [intOf]; omega⟩
          show _ = _
          rw [← unhide HRL, unhide HN, if_neg (by unfold freeE; simp only; rw [hu1]; simp)]
        | false =>
          rw [hu1] at f1
          have t0 := (unhide HFr).froz x0
          have t1 := (unhide HFr).froz x1
          have hx01 : ¬ x0 = x1 := by omega
          go_wp2_with fail
          go_region
          have k3' : Kept (fun k => k = bi ∨ k = bs) wr (((wr.setCell ⟨bi, x0, none⟩ (Value.bool true)).setCell ⟨bi, x1, none⟩ (Value.bool true)).alloc (Obj.cells #[Value.int .i64 (x0 : Int), Value.int .i64 (x1 : Int), Value.int .i64 y2, Value.int .i64 y3, Value.int .i64 y4] 76)).drew :=
            (((Kept.set _ _ _ _ (Or.inl rfl)).trans (Kept.set _ _ _ _ (Or.inl rfl))).trans (Kept.of_below (below_new _ _))).drew
          have hsz3 : ((wr.setCell ⟨bi, x0, none⟩ (Value.bool true)).setCell ⟨bi, x1, none⟩ (Value.bool true)).heap.size = wr.heap.size := by simp
          have u3' : Blk (((wr.setCell ⟨bi, x0, none⟩ (Value.bool true)).setCell ⟨bi, x1, none⟩ (Value.bool true)).alloc (Obj.cells #[Value.int .i64 (x0 : Int), Value.int .i64 (x1 : Int), Value.int .i64 y2, Value.int .i64 y3, Value.int .i64 y4] 76)).drew wr.heap.size #[Value.int .i64 (x0 : Int), Value.int .i64 (x1 : Int), Value.int .i64 y2, Value.int .i64 y3, Value.int .i64 y4] 76 := (Blk.new hsz3.symm).drew
          have F3' : Blk (((wr.setCell ⟨bi, x0, none⟩ (Value.bool true)).setCell ⟨bi, x1, none⟩ (Value.bool true)).alloc (Obj.cells #[Value.int .i64 (x0 : Int), Value.int .i64 (x1 : Int), Value.int .i64 y2, Value.int .i64 y3, Value.int .i64 y4] 76)).drew bi (flags (U ++ [(x0 : Int), (x1 : Int)])) 109 := by
            have := (((unhide HFr).set x0 (.bool true)).set x1 (.bool true))
            rw [flags_two U x0 x1 (by omega) (by omega)] at this
            exact this.alloc.drew
          have S3' : Blk (((wr.setCell ⟨bi, x0, none⟩ (Value.bool true)).setCell ⟨bi, x1, none⟩ (Value.bool true)).alloc (Obj.cells #[Value.int .i64 (x0 : Int), Value.int .i64 (x1 : Int), Value.int .i64 y2, Value.int .i64 y3, Value.int .i64 y4] 76)).drew bs (enc st') ty := (((unhide HSr).set_other (by omega) _ _).set_other (by omega) _ _).alloc.drew
          generalize (((wr.setCell ⟨bi, x0, none⟩ (Value.bool true)).setCell ⟨bi, x1, none⟩ (Value.bool true)).alloc (Obj.cells #[Value.int .i64 (x0 : Int), Value.int .i64 (x1 : Int), Value.int .i64 y2, Value.int .i64 y3, Value.int .i64 y4] 76)).drew = V3 at k3' u3' F3' S3' ⊢
          clear hsz3 t0 t1 f0 f1 p0 p1 c0 c1 c2 c3 c4
          have hz3 := k3'.2.2.2.1
          have hz3' := u3'.lt
          have HE3 : Hid (GoEnv T bs bt bg bi bo B g (some ⟨b, off, none⟩) n c Q V3) := (unhide HEr).kept k3' (by omega) (fun i h => by rcases h with h | h <;> omega) (by omega) (by omega) (by omega)
          have ur3 := ur.kept k3' (by omega)
          have a0 := (unhide HE3).2.2.1.cell 0 _ rfl
          have a1 := ur3.cell 0 _ rfl
          have a2 := ur3.cell 1 _ rfl
          have a3 := ur3.cell 2 _ rfl
          have g0 := u3'.cell 0 _ rfl
          have g1 := u3'.cell 1 _ rfl
          have g2 := u3'.cell 2 _ rfl
          have g3 := u3'.cell 3 _ rfl
          have g4 := u3'.cell 4 _ rfl
          have SW := hide (fun w => sumsWith_any ⟨s1, s2, s3⟩ ⟨(x0 : Int), (x1 : Int), y2, y3, y4⟩ w hs1 hs2 hs3 q3' q4' q5')
          have hwj : IntKind.i64.wrap ((j : Int) + 1) = (j : Int) + 1 := wrap_in _ (by omega)
          have HSA := hide ((unhide HSJ).add (unhide HEK))
          have HCN : Hid (st'.2 + (each (Q.drop (j + 1)) (U ++ [(x0 : Int), (x1 : Int)])).2 ≤ 1000000000) := by
            show _ ≤ _
            have h1 : st'.2 + (each (Q.drop j) U).2 = f.2 + 1 := congrArg Prod.snd (unhide HRL)
            have h2 : f.2 = st.2 + r.2 := by rw [unhide HF]; rfl
            rw [unhide HN, if_pos (by unfold freeE; simp only; rw [hu0, hu1]; rfl)] at h1
            have h3 : st'.2 + ((each (Q.drop (j + 1)) U).2 + (each (Q.drop (j + 1)) (U ++ [(x0 : Int), (x1 : Int)])).2) = f.2 + 1 := h1
            have := each_pos (Q.drop (j + 1)) U
            omega
          obtain ⟨sn, hsn⟩ : ∃ sn, sn = addS ⟨s1, s2, s3⟩ ⟨(x0 : Int), (x1 : Int), y2, y3, y4⟩ := ⟨_, rfl⟩
          rw [← hsn] at SW HSA
          have HSN : Hid (addS ⟨s1, s2, s3⟩ ⟨(x0 : Int), (x1 : Int), y2, y3, y4⟩ = sn) := hsn.symm
          clear hsn
          have HIH' : Hid (∀ W5 : World, Below V3.heap.size V3 W5 → Calls Try.prog 85 #[.int .i64 ((j : Int) + 1), sn.v, .pointer (some ⟨bt, 0, none⟩), .pointer (some ⟨bg, 0, none⟩), .pointer (some ⟨bi, 0, none⟩), .pointer (some ⟨bo, 0, none⟩)] W5
              fun e w' => e = .returned (.tuple #[]) ∧ Blk w' bi (flags (U ++ [(x0 : Int), (x1 : Int)])) 109 ∧ Blk w' bs (enc (comb st' (shift sn (each (Q.drop (j + 1)) (U ++ [(x0 : Int), (x1 : Int)]))))) ty ∧ Kept (fun k => k = bi ∨ k = bs) W5 w') := fun W5 hb5 =>
            unhide HIH (j + 1) sn (U ++ [(x0 : Int), (x1 : Int)]) st' W5 (by omega) (by omega)
              ((unhide HE3).kept (S := fun _ => False) (Kept.of_below hb5) (by omega) (fun i h => h.elim) (fun h => h) (fun h => h) (fun h => h)) (F3'.below hb5) (S3'.below hb5) (by have := hb5.size; omega) (unhide HSA) hst0 (unhide HCN)
          obtain ⟨n1, n2, n3⟩ := sn
          unfold SumsI.v EdgeI.v at SW
          unfold SumsI.v at HIH'
          simp only at SW HIH'
          go_wp2_with fail
          have A0 : ∀ d : Grown V3.heap.size V3, d.w.cell? ⟨bo, 0, none⟩ = some (.func (.func 85) #[] #[.pointer (some ⟨bt, 0, none⟩), .pointer (some ⟨bg, 0, none⟩), .pointer (some ⟨bi, 0, none⟩), .pointer (some ⟨bo, 0, none⟩)]) := fun d => d.cell (by omega) a0
          have A1 : ∀ d : Grown V3.heap.size V3, d.w.cell? ⟨w.heap.size, 0, none⟩ = some (.int .i64 s1) := fun d => d.cell (by omega) a1
          have A2 : ∀ d : Grown V3.heap.size V3, d.w.cell? ⟨w.heap.size, 1, none⟩ = some (.int .i64 s2) := fun d => d.cell (by omega) a2
          have A3 : ∀ d : Grown V3.heap.size V3, d.w.cell? ⟨w.heap.size, 2, none⟩ = some (.int .i64 s3) := fun d => d.cell (by omega) a3
          have G0 : ∀ d : Grown V3.heap.size V3, d.w.cell? ⟨wr.heap.size, 0, none⟩ = some (.int .i64 (x0 : Int)) := fun d => d.cell (by omega) g0
          have G1 : ∀ d : Grown V3.heap.size V3, d.w.cell? ⟨wr.heap.size, 1, none⟩ = some (.int .i64 (x1 : Int)) := fun d => d.cell (by omega) g1
          have G2 : ∀ d : Grown V3.heap.size V3, d.w.cell? ⟨wr.heap.size, 2, none⟩ = some (.int .i64 y2) := fun d => d.cell (by omega) g2
          have G3 : ∀ d : Grown V3.heap.size V3, d.w.cell? ⟨wr.heap.size, 3, none⟩ = some (.int .i64 y3) := fun d => d.cell (by omega) g3
          have G4 : ∀ d : Grown V3.heap.size V3, d.w.cell? ⟨wr.heap.size, 4, none⟩ = some (.int .i64 y4) := fun d => d.cell (by omega) g4
          clear a0 a1 a2 a3 g0 g1 g2 g3 g4
          refine wp_region_pre V3.heap.size 6 1 #[true, true, true, true, true, true, false] (by kernel_rfl) (by kernel_rfl) (by kernel_rfl) (by kernel_rfl) (by kernel_rfl) (by kernel_rfl) ?_
          (try simp only [List.take_succ_cons, List.take_zero])
          repeat (go_big_quiet_step (first
            | (go_at_call 86; exact Calls.grown (Nat.le_refl _) (unhide SW _))))
          refine wpQuiet_nil ?_
          rintro w5 ⟨d5, rfl⟩
          obtain ⟨W5, hb5⟩ := d5
          dsimp only
          clear A0 A1 A2 A3 G0 G1 G2 G3 G4
          refine wpAny_ready (rs := [6]) (fuel := 0) (by kernel_rfl) (by simp) ?_
          refine AllReady.cons (i := 6) rfl (fun K hK => ?_) AllReady.nil
          go_simp
          refine (unhide HIH' W5 hb5).mono ?_
          rintro e w6 ⟨rfl, F6, S6, k6⟩
          refine hK _ _ ?_
          clear hK K
          refine ⟨by kernel_rfl, ?_⟩
          have u6 := (u3'.below hb5).kept k6 (by omega)
          have k6' : Kept (fun k => k = bi ∨ k = bs) w2 w6 := (kr.trans (k3'.trans (Kept.of_below hb5))).trans k6
          have HF6 := hide F6
          have HS6 := hide S6
          have v0 : w6.cell? ⟨bi, x0, none⟩ = some (.bool true) := (unhide HF6).cell x0 _ (by rw [flags_at _ x0 (by omega), inK_pair]; simp)
          have v1 : w6.cell? ⟨bi, x1, none⟩ = some (.bool true) := (unhide HF6).cell x1 _ (by rw [flags_at _ x1 (by omega), inK_pair]; simp)
          have g0 : w6.cell? ⟨wr.heap.size, 0, none⟩ = some (.int .i64 (x0 : Int)) := u6.cell 0 _ rfl
          have g1 : w6.cell? ⟨wr.heap.size, 1, none⟩ = some (.int .i64 (x1 : Int)) := u6.cell 1 _ rfl
          have t0 := (unhide HF6).froz x0
          have t1 := (unhide HF6).froz x1
          clear F6 S6 k6 u6 hb5 W5
          go_wp2_with fail
          go_region
          go_wp2_with fail
          refine ⟨⟨j + 1, comb st' (shift ⟨n1, n2, n3⟩ (each (Q.drop (j + 1)) (U ++ [(x0 : Int), (x1 : Int)]))), by go_num, by omega, by omega, ?_, (unhide HLE).trans (le_mx_left _ _), ?_, ?_, ?_, ?_⟩, by simp [intOf]; omega⟩
          · show _ = _
            rw [← unhide HRL, unhide HN, if_pos (by unfold freeE; simp only; rw [hu0, hu1]; rfl), ← unhide HSN, shift_step]
          · show 0 ≤ st'.2 + (each (Q.drop (j + 1)) (U ++ [(x0 : Int), (x1 : Int)])).2
            have := each_pos (Q.drop (j + 1)) (U ++ [(x0 : Int), (x1 : Int)])
            omega
          · have := (((unhide HF6).set x0 (.bool false)).set x1 (.bool false))
            rw [flags_back U x0 x1 (by omega) (by omega) hu0 hu1] at this
            exact this.drew
          · exact (((unhide HS6).set_other (by omega) _ _).set_other (by omega) _ _).drew
          · exact (k6'.trans ((Kept.set _ _ _ _ (Or.inl rfl)).trans (Kept.set _ _ _ _ (Or.inl rfl)))).drew
    · have hjn : j = n := by omega
      subst hjn
      have hfin : st' = f := by
        refine comb_cancel (s := ⟨s1, s2, s3⟩) ?_ (unhide HLE) ?_
        · rw [← unhide HRL]
          have e0 : Q.drop j = [] := List.drop_eq_nil_of_le (by omega)
          rw [e0]
          unfold shift each
          simp only
          rw [plus_zero]
        · rw [unhide HF, unhide HR]
          exact (le_shift _ _ _).trans (le_mx_right _ _)
      have HS9 : Hid (Blk wr bs (enc f) ty) := by rw [← hfin]; exact unhide HSr
      have HK9 : Hid (Kept (fun k => k = bi ∨ k = bs) w wr) := kk2.trans kr
      clear hfin HSr HRL HLE
      go_wp2_with fail
      go_end0
      exact ⟨rfl, unhide HFr, unhide HS9, unhide HK9⟩

theorem go_any {T bs bt bg bi bo B : Nat} {enc : SumsI × Int → Array Value} {ty : TypeId} {g : Int} {a : Option Addr} {n c : Nat} {Q : List EdgeI}
    (hT : Tells T bs enc ty) (hok : ∀ e ∈ Q, edgeOk 9 e = true) (hQn : Q.length ≤ 1048576) (hd : bi ≠ bs ∧ bt ≠ bi ∧ bt ≠ bs ∧ bg ≠ bi ∧ bg ≠ bs ∧ bo ≠ bi ∧ bo ≠ bs) (hBi : B ≤ bi) (hBs : B ≤ bs) : ∀ m, GoC T bs bt bg bi bo B enc ty g a n c Q m
  | 0 => fun i s U st w hm hi => absurd hm (by omega)
  | m + 1 => go_step hT hok hQn hd hBi hBs (go_any hT hok hQn hd hBi hBs m)
end Gr
end Go.Proofs.Ytejfknkcakeakaa
