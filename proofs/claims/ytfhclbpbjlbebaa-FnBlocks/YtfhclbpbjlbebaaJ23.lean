/-
  Texts of this claim, one behind the other: GrGo, GrImplF, LkC.
-/
import Derived.Test.YtfhclbpbjlbebaaJ17
import Derived.Test.YtfhclbpbjlbebaaJ22
import Derived.Laws.EntriesVeiled
import Derived.Test.YtfhclbpbjlbebaaJ16
import Derived.Test.YtfhclbpbjlbebaaJ12
import Derived.Test.YtfhclbpbjlbebaaJ8

/-
  The contract of the function that goes through all pairings edge by edge and tells their sums.
-/
namespace Go.Proofs.Ytfhclbpbjlbebaa
namespace Gr
open Go.RowKit

/-- Sums and pairings told behind them. -/
def shift (s : SumsI) (E : SumsI × Int) : SumsI × Int := (plus s E.1, E.2)

theorem shift_comb (s : SumsI) (A X : SumsI × Int) : shift s (comb A X) = comb (shift s A) (shift s X) := by
  unfold shift comb
  simp only
  rw [plus_mx]

theorem shift_add (s : SumsI) (e : EdgeI) (E : SumsI × Int) : shift (addS s e) E = shift s (addP E e) := by
  unfold shift addP
  simp only
  rw [plus_add]

theorem shift_step (st A E : SumsI × Int) (s : SumsI) (e : EdgeI) : comb (comb st (shift (addS s e) E)) (shift s A) = comb st (shift s (comb A (addP E e))) := by
  rw [shift_comb, shift_add, comb_assoc, comb_comm (shift s A)]

theorem zero_le_each : ∀ (r : List EdgeI) (U : List Int), LE ⟨0, 0, 0⟩ (each r U).1
  | [], _ => LE.refl _
  | e :: r, U => (zero_le_each r U).trans (each_mono e r U)

theorem le_shift (s : SumsI) (r : List EdgeI) (U : List Int) : LE s (shift s (each r U)).1 := by
  have h := plus_le (s := s).2 (zero_le_each r U)
  rw [plus_zero] at h
  exact h

theorem comb_cancel {a b : SumsI × Int} {s : SumsI} (h : comb a (s, 1) = comb b (s, 1)) (ha : LE s a.1) (hb : LE s b.1) : a = b := by
  have h1 : mx a.1 s = mx b.1 s := congrArg Prod.fst h
  have h2 : a.2 + 1 = b.2 + 1 := congrArg Prod.snd h
  rw [mx_of_ge ha, mx_of_ge hb] at h1
  exact Prod.ext h1 (by omega)

/-- What goOn stands on: who is told, the graph, goOn itself. -/
def GoEnv (T bs bt bg bi bo B : Nat) (s : Int) (a : Option Addr) (n c : Nat) (Q : List EdgeI) (w : World) : Prop :=
  Blk w bt #[.func (.func T) #[] #[.pointer (some ⟨bs, 0, none⟩)]] 104 ∧ GBox w bg s (.slice a n c) ∧
  Blk w bo #[.func (.func 72) #[] #[.pointer (some ⟨bt, 0, none⟩), .pointer (some ⟨bg, 0, none⟩), .pointer (some ⟨bi, 0, none⟩), .pointer (some ⟨bo, 0, none⟩)]] 128 ∧
  edgesAt w a n B Q

theorem GoEnv.kept {S : Nat → Prop} {T bs bt bg bi bo B : Nat} {s : Int} {a : Option Addr} {n c : Nat} {Q : List EdgeI} {w w' : World} (h : GoEnv T bs bt bg bi bo B s a n c Q w) (hk : Kept S w w') (hB : B ≤ w.heap.size) (hS : ∀ i, S i → B ≤ i) (h1 : ¬ S bt) (h2 : ¬ S bg) (h3 : ¬ S bo) : GoEnv T bs bt bg bi bo B s a n c Q w' :=
  ⟨h.1.kept hk h1, h.2.1.kept hk h2, h.2.2.1.kept hk h3, hk.edges h.2.2.2 hB hS⟩

/-- Who is told takes the sums in. -/
def Tells (T bs : Nat) (enc : SumsI × Int → Array Value) (ty : TypeId) : Prop :=
  (∀ (vs : Array Value) (w : World), (callFunc T vs).run Try.prog w = .ok (.enter T vs) w) ∧ ∀ (st : SumsI × Int) (s : SumsI) (w : World), Blk w bs (enc st) ty → 0 ≤ st.2 → st.2 < 1000000000 →
    Calls Try.prog T #[s.v, .pointer (some ⟨bs, 0, none⟩)] w fun e w' => e = .returned (.tuple #[]) ∧ Blk w' bs (enc (comb st (s, 1))) ty ∧ Kept (fun k => k = bs) w w'

/-- goOn's contract, from its last m edges on. -/
def GoC (T bs bt bg bi bo B : Nat) (enc : SumsI × Int → Array Value) (ty : TypeId) (g : Int) (a : Option Addr) (n c : Nat) (Q : List EdgeI) (m : Nat) : Prop :=
  ∀ (i : Nat) (s : SumsI) (U : List Int) (st : SumsI × Int) (w : World), n < i + m → i ≤ n → GoEnv T bs bt bg bi bo B g a n c Q w → Blk w bi (flags U) 127 → Blk w bs (enc st) ty → B ≤ w.heap.size →
    SB s (i : Int) → 0 ≤ st.2 → st.2 + (each (Q.drop i) U).2 ≤ 1000000000 →
    Calls Try.prog 72 #[.int .i64 (i : Int), s.v, .pointer (some ⟨bt, 0, none⟩), .pointer (some ⟨bg, 0, none⟩), .pointer (some ⟨bi, 0, none⟩), .pointer (some ⟨bo, 0, none⟩)] w
      fun e w' => e = .returned (.tuple #[]) ∧ Blk w' bi (flags U) 127 ∧ Blk w' bs (enc (comb st (shift s (each (Q.drop i) U)))) ty ∧ Kept (fun k => k = bi ∨ k = bs) w w'

set_option maxRecDepth 100000 in
set_option maxHeartbeats 4000000 in
theorem go_step {T bs bt bg bi bo B : Nat} {enc : SumsI × Int → Array Value} {ty : TypeId} {g : Int} {a : Option Addr} {n c : Nat} {Q : List EdgeI} {m : Nat}
    (hT : Tells T bs enc ty) (hok : ∀ e ∈ Q, edgeOk 9 e = true) (hQn : Q.length ≤ 1048576) (hd : bi ≠ bs ∧ bt ≠ bi ∧ bt ≠ bs ∧ bg ≠ bi ∧ bg ≠ bs ∧ bo ≠ bi ∧ bo ≠ bs) (hBi : B ≤ bi) (hBs : B ≤ bs)
    (IH : GoC T bs bt bg bi bo B enc ty g a n c Q m) : GoC T bs bt bg bi bo B enc ty g a n c Q (m + 1) := by
  intro i0 s U st w hm hi hE hF hS hB hs h0 h9
  have HIH := hide IH
  have HT := hide hT
  have HOK := hide hok
  have hpos := each_pos (Q.drop i0) U
  obtain ⟨hl, hc⟩ := hE.2.2.2
  have HE := hide hE
  have HC := hide hc
  have HS := hide hs
  have HST := hide hS
  have HFL := hide hF
  clear hE hc hF hS IH hT hok hs
  obtain ⟨r, hr⟩ : ∃ r, r = each (Q.drop i0) U := ⟨_, rfl⟩
  obtain ⟨f, hf⟩ : ∃ f, f = comb st (shift s r) := ⟨_, rfl⟩
  rw [← hr] at h9 hpos ⊢
  rw [← hf]
  have HR := hide hr
  have HF := hide hf
  clear hr hf
  obtain ⟨s1, s2, s3⟩ := s
  unfold SumsI.v
  simp only
  have e1 : w.cell? ⟨bt, 0, none⟩ = some (.func (.func T) #[] #[.pointer (some ⟨bs, 0, none⟩)]) := (unhide HE).1.cell 0 _ rfl
  have hbt := (unhide HE).1.lt
  have hnt : ¬ bt = w.heap.size := by omega
  go_enter Try.func72, Try.ntmps72
  go_wp2_with fail
  rw [(unhide HT).1]
  go_wp2_with fail
  obtain ⟨V1, hV1⟩ : ∃ W, W = w.alloc (Obj.cells #[Value.int .i64 s1, Value.int .i64 s2, Value.int .i64 s3] 66) := ⟨_, rfl⟩
  rw [← hV1]
  have b1 : Below w.heap.size w V1 := by rw [hV1]; exact below_new _ _
  have u1 : Blk V1 w.heap.size #[Value.int .i64 s1, Value.int .i64 s2, Value.int .i64 s3] 66 := by rw [hV1]; exact Blk.new0
  have k1 : Kept (fun k => k = bi ∨ k = bs) w V1 := Kept.of_below b1
  clear hV1
  go_fit ((unhide HT).2 st ⟨s1, s2, s3⟩ V1 ((unhide HST).below b1) h0 (by omega))
  rintro e w2 ⟨rfl, hS2, k2⟩
  have hbsl := (unhide HST).lt
  have hbil := (unhide HFL).lt
  have u2 : Blk w2 w.heap.size #[Value.int .i64 s1, Value.int .i64 s2, Value.int .i64 s3] 66 := u1.kept k2 (by omega)
  have kk2 : Kept (fun k => k = bi ∨ k = bs) w w2 := k1.trans (k2.weak (fun i h => Or.inr h))
  have HE2 : Hid (GoEnv T bs bt bg bi bo B g a n c Q w2) := (unhide HE).kept kk2 hB (fun i h => by rcases h with h | h <;> omega) (by omega) (by omega) (by omega)
  have hF2 : Blk w2 bi (flags U) 127 := ((unhide HFL).below b1).kept k2 (by omega)
  have HF2 := hide hF2
  have HS2 := hide hS2
  have hz2 := kk2.2.2.2.1
  have hz2' := u2.lt
  clear k1 k2 u1 b1 hF2 hS2
  go_wp2_with fail
  go_loopw [8] (fun i wr => ∃ (j : Nat) (st' : SumsI × Int), i = .int .i64 (j : Int) ∧ i0 ≤ j ∧ j ≤ n ∧ Hid (comb st' (shift ⟨s1, s2, s3⟩ (each (Q.drop j) U)) = comb f (⟨s1, s2, s3⟩, 1)) ∧ Hid (LE ⟨s1, s2, s3⟩ st'.1) ∧ 0 ≤ st'.2 ∧ Hid (Blk wr bi (flags U) 127) ∧ Hid (Blk wr bs (enc st') ty) ∧ Kept (fun k => k = bi ∨ k = bs) w2 wr) (fun i _ => n - (intOf i).toNat)
  case atStart => exact ⟨i0, comb st (⟨s1, s2, s3⟩, 1), rfl, Nat.le_refl _, hi, by
      show _ = _
      rw [← unhide HR, unhide HF, comb_assoc, comb_comm (⟨s1, s2, s3⟩, 1), ← comb_assoc], le_mx_right _ _, by show 0 ≤ st.2 + 1; omega, unhide HF2, unhide HS2, Kept.refl _ _⟩
  case round =>
    obtain ⟨j, st', rfl, hij, hj, HRL, HLE, hst0, HFr, HSr, kr⟩ := hrel
    have HEr : Hid (GoEnv T bs bt bg bi bo B g a n c Q wr) := (unhide HE2).kept kr (by omega) (fun i h => by rcases h with h | h <;> omega) (by omega) (by omega) (by omega)
    have hzr := kr.2.2.2.1
    have ur := u2.kept kr (by omega)
    obtain ⟨p0, p1⟩ := (unhide HEr).2.1.cells
    have hgl := (unhide HEr).2.1.lt
    by_cases hlt : j < n
    · have hjL : j < Q.length := by omega
      have HN := hide (each_drop Q U j hjL)
      have HEO := hide ((edgeOk_iff 9 _).1 (unhide HOK Q[j] (List.getElem_mem hjL)))
      have HEK := hide (unhide HOK Q[j] (List.getElem_mem hjL))
      obtain ⟨b, off, rfl, hbB, c0, c1, c2, c3, c4⟩ := (unhide HEr).2.2.2.2 j hjL
      generalize Q[j] = e at HN HEO HEK c0 c1 c2 c3 c4
      obtain ⟨y0, y1, y2, y3, y4⟩ := e
      simp only at c0 c1 c2 c3 c4
      obtain ⟨q0, q1, q2, q3, q4, q5⟩ := unhide HEO
      simp only at q0 q1 q2 q3 q4 q5
      have q3' := worth_range q3
      have q4' := worth_range q4
      have q5' := worth_range q5
      clear q3 q4 q5
      obtain ⟨x0, rfl⟩ := Int.eq_ofNat_of_zero_le q0
      obtain ⟨x1, rfl⟩ := Int.eq_ofNat_of_zero_le (show 0 ≤ y1 by omega)
      have f0 : wr.cell? ⟨bi, x0, none⟩ = some (.bool (inK U (x0 : Int))) := (unhide HFr).cell x0 _ (flags_at U x0 (by omega))
      have f1 : wr.cell? ⟨bi, x1, none⟩ = some (.bool (inK U (x1 : Int))) := (unhide HFr).cell x1 _ (flags_at U x1 (by omega))
      have hbil' := (unhide HFr).lt
      have hbsl' := (unhide HSr).lt
      have hbol' := (unhide HEr).2.2.1.lt
      have HSJ : Hid (SB ⟨s1, s2, s3⟩ (j : Int)) := (unhide HS).mono (by omega)
      have hs1 : 0 ≤ s1 ∧ s1 ≤ 100000000 := by have := (unhide HSJ).1; simp only at this; omega
      have hs2 : 0 ≤ s2 ∧ s2 ≤ 100000000 := by have := (unhide HSJ).2.1; simp only at this; omega
      have hs3 : 0 ≤ s3 ∧ s3 ≤ 100000000 := by have := (unhide HSJ).2.2; simp only at this; omega
      have hne1 : ¬ bi = wr.heap.size := by omega
      have hne2 : ¬ bg = wr.heap.size := by omega
      have hne3 : ¬ b = wr.heap.size := by omega
      have hx09 : (x0 : Int) < 9 := by omega
      have hx19 : (x1 : Int) < 9 := by omega
      cases hu0 : inK U (x0 : Int) with
      | true =>
        rw [hu0] at f0
        go_wp2_with fail
        refine ⟨⟨j + 1, st', by go_num, by omega, by omega, ?_, unhide HLE, hst0, (unhide HFr).alloc, (unhide HSr).alloc, kr.trans (Kept.of_below (below_new _ _))⟩, by simp [intOf]; omega⟩
        show _ = _
        rw [← unhide HRL, unhide HN, if_neg (by unfold freeE; simp only; rw [hu0]; simp)]
      | false =>
        rw [hu0] at f0
        cases hu1 : inK U (x1 : Int) with
        | true =>
          rw [hu1] at f1
          go_wp2_with fail
          refine ⟨⟨j + 1, st', by go_num, by omega, by omega, ?_, unhide HLE, hst0, (unhide HFr).alloc, (unhide HSr).alloc, kr.trans (Kept.of_below (below_new _ _))⟩, by simp [intOf]; omega⟩
          show _ = _
          rw [← unhide HRL, unhide HN, if_neg (by unfold freeE; simp only; rw [hu1]; simp)]
        | false =>
          rw [hu1] at f1
          have t0 := (unhide HFr).froz x0
          have t1 := (unhide HFr).froz x1
          have hx01 : ¬ x0 = x1 := by omega
          go_wp2_with fail
          go_region
          have k3' : Kept (fun k => k = bi ∨ k = bs) wr (((wr.setCell ⟨bi, x0, none⟩ (Value.bool true)).setCell ⟨bi, x1, none⟩ (Value.bool true)).alloc (Obj.cells #[Value.int .i64 (x0 : Int), Value.int .i64 (x1 : Int), Value.int .i64 y2, Value.int .i64 y3, Value.int .i64 y4] 64)).drew :=
            (((Kept.set _ _ _ _ (Or.inl rfl)).trans (Kept.set _ _ _ _ (Or.inl rfl))).trans (Kept.of_below (below_new _ _))).drew
          have hsz3 : ((wr.setCell ⟨bi, x0, none⟩ (Value.bool true)).setCell ⟨bi, x1, none⟩ (Value.bool true)).heap.size = wr.heap.size := by simp
          have u3' : Blk (((wr.setCell ⟨bi, x0, none⟩ (Value.bool true)).setCell ⟨bi, x1, none⟩ (Value.bool true)).alloc (Obj.cells #[Value.int .i64 (x0 : Int), Value.int .i64 (x1 : Int), Value.int .i64 y2, Value.int .i64 y3, Value.int .i64 y4] 64)).drew wr.heap.size #[Value.int .i64 (x0 : Int), Value.int .i64 (x1 : Int), Value.int .i64 y2, Value.int .i64 y3, Value.int .i64 y4] 64 := (Blk.new hsz3.symm).drew
          have F3' : Blk (((wr.setCell ⟨bi, x0, none⟩ (Value.bool true)).setCell ⟨bi, x1, none⟩ (Value.bool true)).alloc (Obj.cells #[Value.int .i64 (x0 : Int), Value.int .i64 (x1 : Int), Value.int .i64 y2, Value.int .i64 y3, Value.int .i64 y4] 64)).drew bi (flags (U ++ [(x0 : Int), (x1 : Int)])) 127 := by
            have := (((unhide HFr).set x0 (.bool true)).set x1 (.bool true))
            rw [flags_two U x0 x1 (by omega) (by omega)] at this
            exact this.alloc.drew
          have S3' : Blk (((wr.setCell ⟨bi, x0, none⟩ (Value.bool true)).setCell ⟨bi, x1, none⟩ (Value.bool true)).alloc (Obj.cells #[Value.int .i64 (x0 : Int), Value.int .i64 (x1 : Int), Value.int .i64 y2, Value.int .i64 y3, Value.int .i64 y4] 64)).drew bs (enc st') ty := (((unhide HSr).set_other (by omega) _ _).set_other (by omega) _ _).alloc.drew
          generalize (((wr.setCell ⟨bi, x0, none⟩ (Value.bool true)).setCell ⟨bi, x1, none⟩ (Value.bool true)).alloc (Obj.cells #[Value.int .i64 (x0 : Int), Value.int .i64 (x1 : Int), Value.int .i64 y2, Value.int .i64 y3, Value.int .i64 y4] 64)).drew = V3 at k3' u3' F3' S3' ⊢
          clear hsz3 t0 t1 f0 f1 p0 p1 c0 c1 c2 c3 c4
          have hz3 := k3'.2.2.2.1
          have hz3' := u3'.lt
          have HE3 : Hid (GoEnv T bs bt bg bi bo B g (some ⟨b, off, none⟩) n c Q V3) := (unhide HEr).kept k3' (by omega) (fun i h => by rcases h with h | h <;> omega) (by omega) (by omega) (by omega)
          have ur3 := ur.kept k3' (by omega)
          have a0 := (unhide HE3).2.2.1.cell 0 _ rfl
          have a1 := ur3.cell 0 _ rfl
          have a2 := ur3.cell 1 _ rfl
          have a3 := ur3.cell 2 _ rfl
          have g0 := u3'.cell 0 _ rfl
          have g1 := u3'.cell 1 _ rfl
          have g2 := u3'.cell 2 _ rfl
          have g3 := u3'.cell 3 _ rfl
          have g4 := u3'.cell 4 _ rfl
          have SW := hide (fun w => sumsWith_any ⟨s1, s2, s3⟩ ⟨(x0 : Int), (x1 : Int), y2, y3, y4⟩ w hs1 hs2 hs3 q3' q4' q5')
          have hwj : IntKind.i64.wrap ((j : Int) + 1) = (j : Int) + 1 := wrap_in _ (by omega)
          have HSA := hide ((unhide HSJ).add (unhide HEK))
          have HCN : Hid (st'.2 + (each (Q.drop (j + 1)) (U ++ [(x0 : Int), (x1 : Int)])).2 ≤ 1000000000) := by
            show _ ≤ _
            have h1 : st'.2 + (each (Q.drop j) U).2 = f.2 + 1 := congrArg Prod.snd (unhide HRL)
            have h2 : f.2 = st.2 + r.2 := by rw [unhide HF]; rfl
            rw [unhide HN, if_pos (by unfold freeE; simp only; rw [hu0, hu1]; rfl)] at h1
            have h3 : st'.2 + ((each (Q.drop (j + 1)) U).2 + (each (Q.drop (j + 1)) (U ++ [(x0 : Int), (x1 : Int)])).2) = f.2 + 1 := h1
            have := each_pos (Q.drop (j + 1)) U
            omega
          obtain ⟨sn, hsn⟩ : ∃ sn, sn = addS ⟨s1, s2, s3⟩ ⟨(x0 : Int), (x1 : Int), y2, y3, y4⟩ := ⟨_, rfl⟩
          rw [← hsn] at SW HSA
          have HSN : Hid (addS ⟨s1, s2, s3⟩ ⟨(x0 : Int), (x1 : Int), y2, y3, y4⟩ = sn) := hsn.symm
          clear hsn
          have HIH' : Hid (∀ W5 : World, Below V3.heap.size V3 W5 → Calls Try.prog 72 #[.int .i64 ((j : Int) + 1), sn.v, .pointer (some ⟨bt, 0, none⟩), .pointer (some ⟨bg, 0, none⟩), .pointer (some ⟨bi, 0, none⟩), .pointer (some ⟨bo, 0, none⟩)] W5
              fun e w' => e = .returned (.tuple #[]) ∧ Blk w' bi (flags (U ++ [(x0 : Int), (x1 : Int)])) 127 ∧ Blk w' bs (enc (comb st' (shift sn (each (Q.drop (j + 1)) (U ++ [(x0 : Int), (x1 : Int)]))))) ty ∧ Kept (fun k => k = bi ∨ k = bs) W5 w') := fun W5 hb5 =>
            unhide HIH (j + 1) sn (U ++ [(x0 : Int), (x1 : Int)]) st' W5 (by omega) (by omega)
              ((unhide HE3).kept (S := fun _ => False) (Kept.of_below hb5) (by omega) (fun i h => h.elim) (fun h => h) (fun h => h) (fun h => h)) (F3'.below hb5) (S3'.below hb5) (by have := hb5.size; omega) (unhide HSA) hst0 (unhide HCN)
          obtain ⟨n1, n2, n3⟩ := sn
          unfold SumsI.v EdgeI.v at SW
          unfold SumsI.v at HIH'
          simp only at SW HIH'
          go_wp2_with fail
          have A0 : ∀ d : Grown V3.heap.size V3, d.w.cell? ⟨bo, 0, none⟩ = some (.func (.func 72) #[] #[.pointer (some ⟨bt, 0, none⟩), .pointer (some ⟨bg, 0, none⟩), .pointer (some ⟨bi, 0, none⟩), .pointer (some ⟨bo, 0, none⟩)]) := fun d => d.cell (by omega) a0
          have A1 : ∀ d : Grown V3.heap.size V3, d.w.cell? ⟨w.heap.size, 0, none⟩ = some (.int .i64 s1) := fun d => d.cell (by omega) a1
          have A2 : ∀ d : Grown V3.heap.size V3, d.w.cell? ⟨w.heap.size, 1, none⟩ = some (.int .i64 s2) := fun d => d.cell (by omega) a2
          have A3 : ∀ d : Grown V3.heap.size V3, d.w.cell? ⟨w.heap.size, 2, none⟩ = some (.int .i64 s3) := fun d => d.cell (by omega) a3
          have G0 : ∀ d : Grown V3.heap.size V3, d.w.cell? ⟨wr.heap.size, 0, none⟩ = some (.int .i64 (x0 : Int)) := fun d => d.cell (by omega) g0
          have G1 : ∀ d : Grown V3.heap.size V3, d.w.cell? ⟨wr.heap.size, 1, none⟩ = some (.int .i64 (x1 : Int)) := fun d => d.cell (by omega) g1
          have G2 : ∀ d : Grown V3.heap.size V3, d.w.cell? ⟨wr.heap.size, 2, none⟩ = some (.int .i64 y2) := fun d => d.cell (by omega) g2
          have G3 : ∀ d : Grown V3.heap.size V3, d.w.cell? ⟨wr.heap.size, 3, none⟩ = some (.int .i64 y3) := fun d => d.cell (by omega) g3
          have G4 : ∀ d : Grown V3.heap.size V3, d.w.cell? ⟨wr.heap.size, 4, none⟩ = some (.int .i64 y4) := fun d => d.cell (by omega) g4
          clear a0 a1 a2 a3 g0 g1 g2 g3 g4
          refine wp_region_pre V3.heap.size 6 1 #[true, true, true, true, true, true, false] (by kernel_rfl) (by kernel_rfl) (by kernel_rfl) (by kernel_rfl) (by kernel_rfl) (by kernel_rfl) ?_
          (try simp only [List.take_succ_cons, List.take_zero])
          repeat (go_big_quiet_step (first
            | (go_at_call 73; exact Calls.grown (Nat.le_refl _) (unhide SW _))))
          refine wpQuiet_nil ?_
          rintro w5 ⟨d5, rfl⟩
          obtain ⟨W5, hb5⟩ := d5
          dsimp only
          clear A0 A1 A2 A3 G0 G1 G2 G3 G4
          refine wpAny_ready (rs := [6]) (fuel := 0) (by kernel_rfl) (by simp) ?_
          refine AllReady.cons (i := 6) rfl (fun K hK => ?_) AllReady.nil
          go_simp
          refine (unhide HIH' W5 hb5).mono ?_
          rintro e w6 ⟨rfl, F6, S6, k6⟩
          refine hK _ _ ?_
          clear hK K
          refine ⟨by kernel_rfl, ?_⟩
          have u6 := (u3'.below hb5).kept k6 (by omega)
          have k6' : Kept (fun k => k = bi ∨ k = bs) w2 w6 := (kr.trans (k3'.trans (Kept.of_below hb5))).trans k6
          have HF6 := hide F6
          have HS6 := hide S6
          have v0 : w6.cell? ⟨bi, x0, none⟩ = some (.bool true) := (unhide HF6).cell x0 _ (by rw [flags_at _ x0 (by omega), inK_pair]; simp)
          have v1 : w6.cell? ⟨bi, x1, none⟩ = some (.bool true) := (unhide HF6).cell x1 _ (by rw [flags_at _ x1 (by omega), inK_pair]; simp)
          have g0 : w6.cell? ⟨wr.heap.size, 0, none⟩ = some (.int .i64 (x0 : Int)) := u6.cell 0 _ rfl
          have g1 : w6.cell? ⟨wr.heap.size, 1, none⟩ = some (.int .i64 (x1 : Int)) := u6.cell 1 _ rfl
          have t0 := (unhide HF6).froz x0
          have t1 := (unhide HF6).froz x1
          clear F6 S6 k6 u6 hb5 W5
          go_wp2_with fail
          go_region
          go_wp2_with fail
          refine ⟨⟨j + 1, comb st' (shift ⟨n1, n2, n3⟩ (each (Q.drop (j + 1)) (U ++ [(x0 : Int), (x1 : Int)]))), by go_num, by omega, by omega, ?_, (unhide HLE).trans (le_mx_left _ _), ?_, ?_, ?_, ?_⟩, by simp [intOf]; omega⟩
          · show _ = _
            rw [← unhide HRL, unhide HN, if_pos (by unfold freeE; simp only; rw [hu0, hu1]; rfl), ← unhide HSN, shift_step]
          · show 0 ≤ st'.2 + (each (Q.drop (j + 1)) (U ++ [(x0 : Int), (x1 : Int)])).2
            have := each_pos (Q.drop (j + 1)) (U ++ [(x0 : Int), (x1 : Int)])
            omega
          · have := (((unhide HF6).set x0 (.bool false)).set x1 (.bool false))
            rw [flags_back U x0 x1 (by omega) (by omega) hu0 hu1] at this
            exact this.drew
          · exact (((unhide HS6).set_other (by omega) _ _).set_other (by omega) _ _).drew
          · exact (k6'.trans ((Kept.set _ _ _ _ (Or.inl rfl)).trans (Kept.set _ _ _ _ (Or.inl rfl)))).drew
    · have hjn : j = n := by omega
      subst hjn
      have hfin : st' = f := by
        refine comb_cancel (s := ⟨s1, s2, s3⟩) ?_ (unhide HLE) ?_
        · rw [← unhide HRL]
          have e0 : Q.drop j = [] := List.drop_eq_nil_of_le (by omega)
          rw [e0]
          unfold shift each
          simp only
          rw [plus_zero]
        · rw [unhide HF, unhide HR]
          exact (le_shift _ _ _).trans (le_mx_right _ _)
      have HS9 : Hid (Blk wr bs (enc f) ty) := by rw [← hfin]; exact unhide HSr
      have HK9 : Hid (Kept (fun k => k = bi ∨ k = bs) w wr) := kk2.trans kr
      clear hfin HSr HRL HLE
      go_wp2_with fail
      go_end0
      exact ⟨rfl, unhide HFr, unhide HS9, unhide HK9⟩

theorem go_any {T bs bt bg bi bo B : Nat} {enc : SumsI × Int → Array Value} {ty : TypeId} {g : Int} {a : Option Addr} {n c : Nat} {Q : List EdgeI}
    (hT : Tells T bs enc ty) (hok : ∀ e ∈ Q, edgeOk 9 e = true) (hQn : Q.length ≤ 1048576) (hd : bi ≠ bs ∧ bt ≠ bi ∧ bt ≠ bs ∧ bg ≠ bi ∧ bg ≠ bs ∧ bo ≠ bi ∧ bo ≠ bs) (hBi : B ≤ bi) (hBs : B ≤ bs) : ∀ m, GoC T bs bt bg bi bo B enc ty g a n c Q m
  | 0 => fun i s U st w hm hi => absurd hm (by omega)
  | m + 1 => go_step hT hok hQn hd hBi hBs (go_any hT hok hQn hd hBi hBs m)
end Gr
end Go.Proofs.Ytfhclbpbjlbebaa

/-
  The contracts of impl.eachMatch and of the two functions that it tells.
-/
namespace Go.Proofs.Ytfhclbpbjlbebaa
namespace Gr
open Go.RowKit

set_option maxRecDepth 100000 in
set_option maxHeartbeats 1000000 in
theorem best_tells (bs : Nat) : Tells 54 bs (fun st => #[.int .i64 st.1.W1, .int .i64 st.1.W2, .int .i64 st.1.W3]) 66 := by
  refine ⟨fun vs w => by kernel_rfl, fun st s w hb _ _ => ?_⟩
  obtain ⟨⟨b1, b2, b3⟩, k⟩ := st
  simp only at hb
  have HB := hide hb
  have hlt := hb.lt
  have hV : (comb (⟨b1, b2, b3⟩, k) (s, 1)).1 = if better s ⟨b1, b2, b3⟩ = true then s else ⟨b1, b2, b3⟩ := rfl
  generalize comb (⟨b1, b2, b3⟩, k) (s, 1) = V at hV ⊢
  have BT := hide (fun w => implBetter_any s ⟨b1, b2, b3⟩ w)
  generalize better s ⟨b1, b2, b3⟩ = bt at BT hV
  obtain ⟨s1, s2, s3⟩ := s
  obtain ⟨V, kv⟩ := V
  simp only at hV ⊢
  unfold SumsI.v at BT ⊢
  simp only at BT ⊢
  have c0 : w.cell? ⟨bs, 0, none⟩ = some (.int .i64 b1) := hb.cell 0 _ rfl
  have c1 : w.cell? ⟨bs, 1, none⟩ = some (.int .i64 b2) := hb.cell 1 _ rfl
  have c2 : w.cell? ⟨bs, 2, none⟩ = some (.int .i64 b3) := hb.cell 2 _ rfl
  have hne : ¬ bs = w.heap.size := by omega
  clear hb
  go_enter Try.func54, Try.ntmps54
  go_wp2_with fail
  obtain ⟨V1, hV1⟩ : ∃ W, W = w.alloc (Obj.cells #[Value.int .i64 s1, Value.int .i64 s2, Value.int .i64 s3] 66) := ⟨_, rfl⟩
  rw [← hV1]
  have d1 : Below w.heap.size w V1 := by rw [hV1]; exact below_new _ _
  have u1 : Blk V1 w.heap.size #[Value.int .i64 s1, Value.int .i64 s2, Value.int .i64 s3] 66 := by rw [hV1]; exact Blk.new0
  clear hV1
  refine (unhide BT _).mono ?_
  rintro e w2 ⟨rfl, hb2⟩
  have d2 := d1.trans (hb2.mono d1.size)
  have u2 := u1.below hb2
  have v2 : Blk w2 bs #[Value.int .i64 b1, Value.int .i64 b2, Value.int .i64 b3] 66 := (unhide HB).below d2
  cases bt with
  | false =>
    rw [if_neg (by simp)] at hV
    subst hV
    go_wp2_with fail
    go_end0
    exact ⟨rfl, v2, Kept.of_below d2⟩
  | true =>
    rw [if_pos rfl] at hV
    subst hV
    have p0 : w2.cell? ⟨w.heap.size, 0, none⟩ = some (.int .i64 s1) := u2.cell 0 _ rfl
    have p1 : w2.cell? ⟨w.heap.size, 1, none⟩ = some (.int .i64 s2) := u2.cell 1 _ rfl
    have p2 : w2.cell? ⟨w.heap.size, 2, none⟩ = some (.int .i64 s3) := u2.cell 2 _ rfl
    have q0 : w2.cell? ⟨bs, 0, none⟩ = some (.int .i64 b1) := v2.cell 0 _ rfl
    have q1 : w2.cell? ⟨bs, 1, none⟩ = some (.int .i64 b2) := v2.cell 1 _ rfl
    have q2 : w2.cell? ⟨bs, 2, none⟩ = some (.int .i64 b3) := v2.cell 2 _ rfl
    have t0 := v2.froz 0
    have t1 := v2.froz 1
    have t2 := v2.froz 2
    go_wp2_with fail
    go_end0
    exact ⟨rfl, ((v2.set 0 _).set 1 _).set 2 _, (Kept.of_below d2).trans (kept3 w2 bs _ _ _)⟩

theorem each_le {s : Int} {Q : List EdgeI} (hg : graphOk s Q = true) : (0 : Int) + (each Q []).2 ≤ 1000000000 := by
  obtain ⟨h0, h9, _, _⟩ := graph_sound hg
  obtain ⟨_, _, hb⟩ := best_bounds hg s.toNat [] (by omega)
  rw [best_is_each hg] at hb
  have := pow_big s.toNat (by omega)
  omega

set_option maxRecDepth 100000 in
set_option maxHeartbeats 1000000 in
theorem eachMatch_any {T bs B : Nat} {enc : SumsI × Int → Array Value} {ty : TypeId} {s : Int} {Q : List EdgeI} {v : Value} (hT : Tells T bs enc ty) (hg : graphOk s Q = true) (hQ : Q.length ≤ 1048576) (hBs : B ≤ bs) (w : World) (hv : GrAt w v B s Q) (st : SumsI × Int) (hS : Blk w bs (enc st) ty) (h0 : 0 ≤ st.2) (h9 : st.2 + (each Q []).2 ≤ 1000000000) :
    Calls Try.prog 53 #[v, .func (.func T) #[] #[.pointer (some ⟨bs, 0, none⟩)]] w fun e w' => e = .returned (.tuple #[]) ∧ Blk w' bs (enc (comb st (each Q []))) ty ∧ Kept (fun k => k = bs) w w' := by
  obtain ⟨a, n, c, rfl, hE⟩ := hv
  obtain ⟨hs0, hs9, hok, _⟩ := graph_sound hg
  have hlt := hS.lt
  have hok9 : ∀ e ∈ Q, edgeOk 9 e = true := fun e he => by
    obtain ⟨x0, x1, x2, x3⟩ := (edgeOk_iff s e).1 (hok e he)
    exact (edgeOk_iff 9 e).2 ⟨x0, x1, by omega, x3⟩
  have HGO := hide (fun W => go_any (a := a) (n := n) (c := c) (g := s) (bt := w.heap.size + 1) (bg := w.heap.size) (bi := w.heap.size + 1 + 1) (bo := w.heap.size + 1 + 1 + 1) hT hok9 hQ (by omega) (by omega) hBs (n + 1) 0 ⟨0, 0, 0⟩ [] st W (by omega) (by omega))
  have hz : shift ⟨0, 0, 0⟩ (each (Q.drop 0) []) = each Q [] := by
    unfold shift
    rw [zero_plus]
    rfl
  rw [hz] at HGO
  have HE := hide hE
  have HS := hide hS
  have HT := hide hT
  clear hE hS hT hz
  unfold SumsI.v at HGO
  simp only [flags_nil] at HGO
  go_enter Try.func53, Try.ntmps53
  go_wp2_with fail
  obtain ⟨V, hV⟩ : ∃ W, W = (((w.alloc (Obj.cells #[Value.int .i64 s, Value.slice a n c] 26)).alloc (Obj.cells #[Value.func (Fn.func T) #[] #[Value.pointer (some ⟨bs, 0, none⟩)]] 104)).alloc (Obj.cells #[Value.bool false, Value.bool false, Value.bool false, Value.bool false, Value.bool false, Value.bool false, Value.bool false, Value.bool false, Value.bool false] 127)).alloc (Obj.cells #[Value.func (Fn.func 72) #[] #[Value.pointer (some ⟨w.heap.size + 1, 0, none⟩), Value.pointer (some ⟨w.heap.size, 0, none⟩), Value.pointer (some ⟨w.heap.size + 1 + 1, 0, none⟩), Value.pointer (some ⟨w.heap.size + 1 + 1 + 1, 0, none⟩)]] 128) := ⟨_, rfl⟩
  rw [← hV]
  have b1 : Below w.heap.size w V := by rw [hV]; exact (((below_new _ _).alloc (by simp) _).alloc (by simp; omega) _).alloc (by simp; omega) _
  have m0 : Blk V w.heap.size #[Value.int .i64 s, Value.slice a n c] 26 := by rw [hV]; exact Blk.new0.alloc.alloc.alloc
  have m1 : Blk V (w.heap.size + 1) #[Value.func (Fn.func T) #[] #[Value.pointer (some ⟨bs, 0, none⟩)]] 104 := by rw [hV]; exact Blk.new1.alloc.alloc
  have m2 : Blk V (w.heap.size + 1 + 1) #[Value.bool false, Value.bool false, Value.bool false, Value.bool false, Value.bool false, Value.bool false, Value.bool false, Value.bool false, Value.bool false] 127 := by rw [hV]; exact Blk.new2.alloc
  have m3 : Blk V (w.heap.size + 1 + 1 + 1) #[Value.func (Fn.func 72) #[] #[Value.pointer (some ⟨w.heap.size + 1, 0, none⟩), Value.pointer (some ⟨w.heap.size, 0, none⟩), Value.pointer (some ⟨w.heap.size + 1 + 1, 0, none⟩), Value.pointer (some ⟨w.heap.size + 1 + 1 + 1, 0, none⟩)]] 128 := by rw [hV]; exact Blk.new (by simp)
  clear hV
  have hBw : B ≤ w.heap.size := by omega
  refine (unhide HGO V ⟨m1, m0, m3, (unhide HE).below b1 hBw⟩ m2 ((unhide HS).below b1) (by have := b1.size; omega) (SB.zero _ (by omega)) h0 h9).mono ?_
  rintro e w2 ⟨rfl, _, hS2, k2⟩
  have HS2 := hide hS2
  have HK2 : Hid (Kept (fun k => k = bs) w w2) := by
    obtain ⟨k1, k2, k3, k4, k5⟩ := k2
    have hsz := b1.size
    exact ⟨k1.trans b1.os, k2.trans b1.tape, k3.trans b1.output, by omega, fun i hi hn => (k5 i (by omega) (fun h => by rcases h with h | h <;> omega)).trans (b1.block i hi)⟩
  clear k2 hS2 m0 m1 m2 m3
  go_wp2_with fail
  go_end0
  exact ⟨rfl, unhide HS2, unhide HK2⟩

set_option maxRecDepth 100000 in
set_option maxHeartbeats 2000000 in
theorem implBestSums_gen (B : Nat) (v : Value) (s : Int) (Q : List EdgeI) (h1 : Q.length ≤ 1048576) (w : World) (hB : B ≤ w.heap.size) (hv : GrAt w v B s Q) :
    Calls Try.prog 31 #[v] w fun e w' => (∃ d, e = .returned (.tuple #[d, .bool (graphOk s Q)]) ∧ SuOwn w' w.heap.size d (bestR s Q)) ∧ Below w.heap.size w w' := by
  have OK := hide (fun w1 (hb : Below w.heap.size w w1) => implGraph_gen B v s Q h1 w1 (by have := hb.size; omega) (hv.below hb hB))
  have EM := hide (fun (hg : graphOk s Q = true) bs hBs w1 (hb : Below w.heap.size w w1) hS => eachMatch_any (B := B) (v := v) (best_tells bs) hg h1 hBs w1 (hv.below hb hB) (⟨0, 0, 0⟩, 0) hS (Int.le_refl _) (each_le hg))
  obtain ⟨a, n, c, rfl, _⟩ := hv
  have hV : bestR s Q = if graphOk s Q = true then (best Q s s.toNat []).1 else ⟨0, 0, 0⟩ := rfl
  have HV : Hid (graphOk s Q = true → (comb (⟨0, 0, 0⟩, 0) (each Q [])).1 = (best Q s s.toNat []).1) := fun hg => by
    rw [best_is_each hg]
    exact mx_of_le (zero_le_each Q [])
  generalize bestR s Q = V at hV ⊢
  generalize (best Q s s.toNat []).1 = T at HV hV
  generalize comb (⟨0, 0, 0⟩, 0) (each Q []) = E at HV EM
  generalize graphOk s Q = ok at OK EM HV hV ⊢
  clear h1
  go_enter Try.func31, Try.ntmps31
  go_wp2_with fail
  obtain ⟨V1, hV1⟩ : ∃ W, W = w.alloc (Obj.cells #[Value.int .i64 s, Value.slice a n c] 26) := ⟨_, rfl⟩
  obtain ⟨V2, hV2⟩ : ∃ W, W = V1.alloc (Obj.cells #[Value.int .i64 0, Value.int .i64 0, Value.int .i64 0] 66) := ⟨_, rfl⟩
  rw [← hV1, ← hV2]
  have z1 : V1.heap.size = w.heap.size + 1 := by rw [hV1]; simp
  have b1 : Below w.heap.size w V1 := by rw [hV1]; exact below_new _ _
  have b2 : Below w.heap.size w V2 := by rw [hV2]; exact b1.alloc b1.size _
  have x1 : GBox V1 w.heap.size s (.slice a n c) := by rw [hV1]; exact GBox.new _ _ _
  have x2 : GBox V2 w.heap.size s (.slice a n c) := by rw [hV2]; exact x1.below (below_new _ _)
  have r2 : SBox V2 (w.heap.size + 1) ⟨0, 0, 0⟩ := by rw [hV2, ← z1]; exact SBox.new _ ⟨0, 0, 0⟩
  clear hV1 hV2 b1 x1 z1
  go_fit (unhide OK V2 b2)
  rintro e w3 ⟨rfl, hb3⟩
  have x3 := x2.below hb3
  have r3 := r2.below hb3
  have b3 := b2.trans (hb3.mono b2.size)
  obtain ⟨p0, p1⟩ := x3.cells
  clear hb3 x2 r2 b2
  cases ok with
  | false =>
    rw [if_neg (by simp)] at hV
    subst hV
    obtain ⟨u0, u1, u2⟩ := r3.cells
    have uf := r3.froz
    have HR := hide r3
    clear r3 x3
    go_wp2
    (try simp only [Exit.inBlock, Exit.then])
    refine bodyPost_ret (results_sums2 Try.results31 _ _ (w.heap.size + 1) _ rfl ((unhide HR).three 0 0 0)) rfl ?_
    exact ⟨⟨_, rfl, rfl⟩, b3.trans ((kept3 w3 (w.heap.size + 1) _ _ _).below b3.size (fun i hi => by omega))⟩
  | true =>
    rw [if_pos rfl] at hV
    subst hV
    have hr3l := r3.lt
    have hxl := x3.lt
    have hne0 : ¬ w.heap.size = w3.heap.size := by omega
    have HVT := hide (unhide HV rfl)
    go_wp2_with fail
    have bb : Below w3.heap.size w3 (w3.alloc (Obj.cells #[Value.int .i64 0, Value.int .i64 0, Value.int .i64 0] 66)) := below_new _ _
    go_fit (unhide EM (by first | rfl | trivial) w3.heap.size (by omega) (w3.alloc (Obj.cells #[Value.int .i64 0, Value.int .i64 0, Value.int .i64 0] 66)) (b3.trans (bb.mono b3.size)) Blk.new0)
    rintro e w4 ⟨rfl, hS4, k4⟩
    have hb4 : Below w3.heap.size w3 w4 := bb.trans (k4.below bb.size (fun i hi => by omega))
    have r4 := r3.below hb4
    have b4 := b3.trans (hb4.mono b3.size)
    have hz4 := hb4.size
    rw [unhide HVT] at hS4
    have m0 : w4.cell? ⟨w3.heap.size, 0, none⟩ = some (.int .i64 V.W1) := hS4.cell 0 _ rfl
    have m1 : w4.cell? ⟨w3.heap.size, 1, none⟩ = some (.int .i64 V.W2) := hS4.cell 1 _ rfl
    have m2 : w4.cell? ⟨w3.heap.size, 2, none⟩ = some (.int .i64 V.W3) := hS4.cell 2 _ rfl
    obtain ⟨u0, u1, u2⟩ := r4.cells
    have uf := r4.froz
    have HR := hide r4
    have HB4 := hide b4
    clear r4 r3 x3 hb4 p0 p1 b4 bb k4 hS4
    go_wp2
    (try simp only [Exit.inBlock, Exit.then])
    have hb6 := (unhide HB4).trans ((kept3 w4 (w.heap.size + 1) (.int .i64 V.W1) (.int .i64 V.W2) (.int .i64 V.W3)).below (unhide HB4).size (fun i hi => by omega))
    refine bodyPost_ret (results_sums2 Try.results31 _ _ (w.heap.size + 1) _ rfl ((unhide HR).three V.W1 V.W2 V.W3)) rfl ?_
    exact ⟨⟨_, rfl, rfl⟩, hb6⟩

end Gr
end Go.Proofs.Ytfhclbpbjlbebaa

/-
  MostCouples: both contracts. Every edge is worth one in the graph whose best sums are asked.
-/
namespace Go.Proofs.Ytfhclbpbjlbebaa
namespace Lk
open Go.RowKit
open Gr (Blk Kept EdgeI SumsI GrAt GBox below_new edgesV edgesV_snoc edgesAt infoEdge graphOk graph_sound graph_of edgeOk_iff worthOk ahead ahead_iff best bestR SuOwn specGraph_any implGraph_gen specBest_any implBestSums_gen news_edge edge_one own_below own_lower GrOwn)

/-- An edge with the worths 1, 0, 0. -/
def plainE (e : EdgeI) : EdgeI := ⟨e.A, e.B, 1, 0, 0⟩
def plainQ (Q : List EdgeI) : List EdgeI := Q.map plainE

theorem plain_length (Q : List EdgeI) : (plainQ Q).length = Q.length := by simp [plainQ]

theorem plain_next (Q : List EdgeI) (k : Nat) (h : k < Q.length) : plainQ (Q.take (k + 1)) = plainQ (Q.take k) ++ [⟨Q[k].A, Q[k].B, 1, 0, 0⟩] := by
  unfold plainQ
  rw [List.take_succ_eq_append_getElem h, List.map_append]
  rfl

theorem plain_ok {s : Int} {Q : List EdgeI} (h : graphOk s Q = true) : graphOk s (plainQ Q) = true := by
  obtain ⟨h0, h9, he, hp⟩ := graph_sound h
  refine graph_of h0 h9 (fun e hm => ?_) ?_
  · unfold plainQ at hm
    obtain ⟨x, hx, rfl⟩ := List.mem_map.1 hm
    have := (edgeOk_iff s x).1 (he x hx)
    exact (edgeOk_iff s _).2 ⟨this.1, this.2.1, this.2.2.1, rfl, rfl, rfl⟩
  · unfold plainQ
    refine List.pairwise_map.2 (hp.imp ?_)
    intro a b hab
    have := (ahead_iff _ _).1 hab
    exact (ahead_iff _ _).2 this

/-- The most couples. -/
def mostC (s : Int) (Q : List EdgeI) : Int := if graphOk s Q = true then (best (plainQ Q) s s.toNat []).1.W1 else -1

set_option maxRecDepth 100000 in
set_option maxHeartbeats 4000000 in
theorem implMost_gen (B : Nat) (v : Value) (s : Int) (Q : List EdgeI) (h1 : Q.length ≤ 1048576) (w : World) (hB : B ≤ w.heap.size) (hv : GrAt w v B s Q) :
    Calls Try.prog 9 #[v] w fun e w' => e = .returned (.int .i64 (mostC s Q)) ∧ Below w.heap.size w w' := by
  have OK := hide (fun w1 (hb : Below w.heap.size w w1) => implGraph_gen B v s Q h1 w1 (by have := hb.size; omega) (hv.below hb hB))
  have HR : Hid (graphOk s Q = true → mostC s Q = (bestR s (plainQ Q)).W1) := fun h => by
    unfold mostC bestR
    rw [if_pos h, if_pos (plain_ok h)]
  have HR0 : Hid (graphOk s Q = false → mostC s Q = -1) := fun h => by unfold mostC; rw [h]; rfl
  have BS := hide (fun d w1 (hd : GrAt w1 d w1.heap.size s (plainQ Q)) => implBestSums_gen w1.heap.size d s (plainQ Q) (by rw [plain_length]; exact h1) w1 (Nat.le_refl _) hd)
  have HPN := hide (fun k h => plain_next Q k h)
  have HP0 : Hid (plainQ (Q.take 0) = []) := rfl
  have HPL : Hid (∀ k, k ≤ Q.length → (plainQ (Q.take k)).length = k) := fun k h => by rw [plain_length, List.length_take]; omega
  have HPE : Hid (plainQ (Q.take Q.length) = plainQ Q) := by show _ = _; rw [List.take_length]
  obtain ⟨a, n, c, rfl, hE⟩ := hv
  obtain ⟨hL, hc⟩ := hE
  rw [hL] at HPE h1 HPL
  have HC := hide hc
  have HL := hide hL
  generalize mostC s Q = V at HR HR0 ⊢
  generalize bestR s (plainQ Q) = T at HR BS
  generalize graphOk s Q = gk at OK HR HR0
  generalize graphOk s (plainQ Q) = gk2 at BS
  obtain ⟨i1, hi1, hz0, hz1, hz2⟩ := info_parts infoEdge
  clear hc hL
  go_enter Try.func9, Try.ntmps9
  go_wp2_with fail
  obtain ⟨V1, hV1⟩ : ∃ W, W = w.alloc (Obj.cells #[Value.int .i64 s, Value.slice a n c] 26) := ⟨_, rfl⟩
  rw [← hV1]
  have x1 : GBox V1 w.heap.size s (.slice a n c) := by rw [hV1]; exact GBox.new _ _ _
  have b1 : Below w.heap.size w V1 := by rw [hV1]; exact below_new _ _
  clear hV1
  refine (unhide OK V1 b1).mono ?_
  rintro e w2 ⟨rfl, hb2⟩
  have x2 := x1.below hb2
  have b2 := b1.trans (hb2.mono b1.size)
  obtain ⟨p0, p1⟩ := x2.cells
  have z2 := x2.lt
  clear hb2 x1 OK b1
  cases gk
  · have hR := unhide HR0 rfl
    subst hR
    go_wp2
    go_ret
    exact ⟨rfl, b2⟩
  · have hR := unhide HR rfl
    subst hR
    clear HR HR0
    obtain ⟨V3, hV3⟩ : ∃ W, W = w2.alloc (Obj.cells #[Value.int .i64 s, Value.slice none 0 0] 26) := ⟨_, rfl⟩
    have HX3 : Hid (GBox V3 w.heap.size s (.slice a n c)) := by show GBox _ _ _ _; rw [hV3]; exact x2.below (below_new _ _)
    have HU3 : Hid (GBox V3 w2.heap.size s (.slice none 0 0)) := by show GBox _ _ _ _; rw [hV3]; exact GBox.new _ _ _
    have b3 : Below w.heap.size w V3 := by rw [hV3]; exact b2.alloc b2.size _
    have HO3 : Hid (World.ownsRow V3 (w2.heap.size + 1) 64 5 (.slice none 0 0) 0 (edgesV (plainQ (Q.take 0)))) := ⟨by rw [unhide HP0]; rfl, .inl ⟨rfl, rfl⟩⟩
    obtain ⟨q0, q1⟩ := (unhide HX3).cells
    rw [hV3] at q0 q1
    have hg2 := b2.size
    clear x2
    go_wp2_with fail
    rw [← hV3]
    clear hV3 q0 q1 p0 p1 b2
    generalize w2.heap.size = g at HX3 HU3 HO3 hg2 z2
    go_loopw [17] (fun i wr => ∃ k : Nat, i = .int .i64 (k : Int) ∧ k ≤ n ∧ Below w.heap.size w wr ∧ ∃ A C, Hid (GBox wr g s (.slice A k C)) ∧ Hid (World.ownsRow wr (g + 1) 64 5 (.slice A k C) k (edgesV (plainQ (Q.take k))))) (fun i _ => n - (intOf i).toNat)
    case atStart => exact ⟨0, rfl, Nat.zero_le _, b3, none, 0, unhide HU3, unhide HO3⟩
    case round =>
      clear HU3 HO3 b3 HX3
      obtain ⟨k, rfl, hk, hb, A, C, HU, HO⟩ := hrel
      have hgl := (unhide HU).lt
      by_cases hlt : k < n
      · have hkQ : k < Q.length := by have := unhide HL; omega
        obtain ⟨b, off, rfl, hbB, c0, c1, c2, c3, c4⟩ := unhide HC k hkQ
        rw [← hb.cell (p := ⟨b, off + k * 5, none⟩) (by simp; omega)] at c0
        rw [← hb.cell (p := ⟨b, off + k * 5 + 1, none⟩) (by simp; omega)] at c1
        rw [← hb.cell (p := ⟨b, off + k * 5 + 2, none⟩) (by simp; omega)] at c2
        rw [← hb.cell (p := ⟨b, off + k * 5 + 3, none⟩) (by simp; omega)] at c3
        rw [← hb.cell (p := ⟨b, off + k * 5 + 4, none⟩) (by simp; omega)] at c4
        have HS := hide (unhide HPN k hkQ)
        generalize Q[k] = q at c0 c1 c2 c3 c4 HS
        obtain ⟨y0, y1, y2, y3, y4⟩ := q
        simp only at c0 c1 c2 c3 c4 HS
        have hx2 : (k : Int) < (n : Int) := by omega
        have hx0 : (0 : Int) ≤ (k : Int) := by omega
        have hn5 : k + 1 ≤ 1048576 := by omega
        have bw9 := below_new wr (Obj.cells #[Value.int .i64 y0, Value.int .i64 y1, Value.int .i64 y2, Value.int .i64 y3, Value.int .i64 y4] 64)
        obtain ⟨V9, hV9⟩ : ∃ W, W = wr.alloc (Obj.cells #[Value.int .i64 y0, Value.int .i64 y1, Value.int .i64 y2, Value.int .i64 y3, Value.int .i64 y4] 64) := ⟨_, rfl⟩
        rw [← hV9] at bw9
        have z9 : V9.heap.size = wr.heap.size + 1 := by rw [hV9]; simp
        have e9 : Blk V9 wr.heap.size #[Value.int .i64 y0, Value.int .i64 y1, Value.int .i64 y2, Value.int .i64 y3, Value.int .i64 y4] 64 := by rw [hV9]; exact Gr.Blk.new0
        have u9 := (unhide HU).below bw9
        have o9 := own_below (unhide HO) bw9
        have b9 := hb.trans (bw9.mono hb.size)
        have f0 := e9.cell 0 _ rfl
        have f1 := e9.cell 1 _ rfl
        obtain ⟨q0, q1⟩ := u9.cells
        have HU9 := hide u9
        have hgl2 : ∀ g', (Value.slice A k C).ownBlock = some g' → g < g' := fun g' hg => by have := (o9.lt g' hg).1; omega
        have hz9 : wr.heap.size < V9.heap.size := by omega
        have hge : g < V9.heap.size := by omega
        have HNW : ∀ j u, [Value.int .i64 y0, Value.int .i64 y1, Value.int .i64 1, Value.int .i64 0, Value.int .i64 0][j]? = some u → ((wr.alloc (Obj.cells #[Value.int .i64 y0, Value.int .i64 y1, Value.int .i64 y2, Value.int .i64 y3, Value.int .i64 y4] 64)).alloc (Obj.cells #[Value.int .i64 y0, Value.int .i64 y1, Value.int .i64 1, Value.int .i64 0, Value.int .i64 0] 64)).cell? ((⟨wr.heap.size + 1, 0, none⟩ : Addr).add j) = some u := fun j u h => by
          have h2 := news_edge V9 y0 y1 1 0 0 64 j u h
          rwa [z9, hV9] at h2
        have OA : ((wr.alloc (Obj.cells #[Value.int .i64 y0, Value.int .i64 y1, Value.int .i64 y2, Value.int .i64 y3, Value.int .i64 y4] 64)).alloc (Obj.cells #[Value.int .i64 y0, Value.int .i64 y1, Value.int .i64 1, Value.int .i64 0, Value.int .i64 0] 64)).ownsRow (g + 1) 64 5 (.slice A k C) k (edgesV (plainQ (Q.take k))) := by rw [← hV9]; exact o9.alloc _
        rw [hV9] at f0 f1 q0 q1
        clear e9 bw9 u9 hb z9 HO HU
        go_wp2_with (at_builtin; refine wpList_append_own _ rfl _ _ 24 rfl (g + 1) 64 i1 (.agg #[.int .i64 0, .int .i64 0, .int .i64 0, .int .i64 0, .int .i64 0]) 5 40 Try.underlying24 hi1 hz0 hz1 hz2 rfl (by decide) _ k _ rfl OA ⟨wr.heap.size + 1, 0, none⟩ 1 1 [.int .i64 y0, .int .i64 y1, .int .i64 1, .int .i64 0, .int .i64 0] rfl rfl HNW (edge_one _ _ _ _ _) ?_ ?_ ?_ ?_)
        · unfold maxLen; omega
        · omega
        · simp; omega
        intro v4 w4 hown4 hgrow4 _
        rw [← hV9] at hgrow4
        have bl4 := below_append (B := g + 1) (w := V9) (wr := V9) (Below.refl _ _) (by omega) o9 hgrow4
        have u10 : GBox w4 g s (.slice A k C) := by
          have h := (unhide HU9).below (below_new V9 (Obj.cells #[Value.int .i64 y0, Value.int .i64 y1, Value.int .i64 1, Value.int .i64 0, Value.int .i64 0] 64))
          exact h.kept (Gr.Kept.of_grown hgrow4) (fun e => by have := hgl2 _ e; omega)
        obtain ⟨A4, C4, rfl⟩ : ∃ A c, v4 = .slice A (k + 1) c := by
          rcases hown4.2 with ⟨rfl, h0⟩ | ⟨g', cap, cur, rfl, _⟩
          · omega
          · exact ⟨_, _, rfl⟩
        have hsn : edgesV (plainQ (Q.take k)) ++ [.int .i64 y0, .int .i64 y1, .int .i64 1, .int .i64 0, .int .i64 0] = edgesV (plainQ (Q.take (k + 1))) := by rw [unhide HS]; exact (edgesV_snoc _ ⟨y0, y1, 1, 0, 0⟩).symm
        rw [hsn] at hown4
        have hk11 : Kept (fun i => i = g) w4 (w4.setCell ⟨g, 1, none⟩ (.slice A4 (k + 1) C4)) := Gr.Kept.set (S := fun i => i = g) _ _ _ _ rfl
        have HU11 := hide (u10.one (.slice A4 (k + 1) C4))
        have HO11 := hide (hk11.own hown4 (fun g' hg e => by have := (hown4.lt g' hg).1; omega))
        have b10 : Below w.heap.size w w4 := b9.trans (bl4.mono (by omega))
        have HB11 := hide (b10.trans (hk11.below b10.size (fun i hi => by omega)))
        obtain ⟨r0, r1⟩ := u10.cells
        have rf := u10.froz
        clear hown4 hgrow4 hk11 b10 bl4 u10 o9 q0 q1 f0 f1 hsn b9 hgl2 hV9
        go_wp2_with fail
        exact ⟨⟨k + 1, by go_num, by omega, unhide HB11, A4, C4, HU11, HO11⟩, by simp [intOf]; omega⟩
      · obtain rfl : k = n := by omega
        obtain ⟨q0, q1⟩ := (unhide HU).cells
        have HG : Hid (GrAt wr (.agg #[.int .i64 s, .slice A k C]) wr.heap.size s (plainQ Q)) := by
          have ho := unhide HO
          rw [unhide HPE] at ho
          have e : k = (plainQ Q).length := by rw [plain_length, unhide HL]
          obtain ⟨a', c', e2, hE⟩ := edgesAt.of_own ho
          simp at e2
          obtain ⟨rfl, rfl⟩ := e2
          exact ⟨_, _, _, rfl, hE⟩
        have BSW := hide (unhide BS _ wr (unhide HG))
        clear HU HO BS HG
        go_wp2_with fail
        refine (unhide BSW).mono ?_
        rintro e w8 ⟨⟨d, rfl, ho⟩, hb8⟩
        unfold SuOwn at ho
        subst ho
        unfold SumsI.v
        have b8 := hb.trans (hb8.mono hb.size)
        have HB9 := hide (fun o => b8.alloc b8.size o)
        clear hb8
        go_wp2_with fail
        go_ret
        exact ⟨rfl, unhide HB9 _⟩

set_option maxRecDepth 100000 in
set_option maxHeartbeats 4000000 in
theorem specMost_gen (B : Nat) (v : Value) (s : Int) (Q : List EdgeI) (h1 : Q.length ≤ 1048576) (w : World) (hB : B ≤ w.heap.size) (hv : GrAt w v B s Q) :
    Calls Try.prog 11 #[v] w fun e w' => e = .returned (.int .i64 (mostC s Q)) ∧ Below w.heap.size w w' := by
  have OK := hide (fun w1 (hb : Below w.heap.size w w1) => specGraph_any v B s Q h1 w1 (by have := hb.size; omega) (hv.below hb hB))
  have HR : Hid (graphOk s Q = true → mostC s Q = (best (plainQ Q) s s.toNat []).1.W1) := fun h => by
    unfold mostC
    rw [if_pos h]
  have HR0 : Hid (graphOk s Q = false → mostC s Q = -1) := fun h => by unfold mostC; rw [h]; rfl
  have BS : Hid (graphOk s Q = true → ∀ d w1 ad c, GrAt w1 d w1.heap.size s (plainQ Q) → Calls Try.prog 34 #[d, .int .i64 0, .slice (some ad) 0 c] w1 fun e w' => e = .returned (.tuple #[(best (plainQ Q) s s.toNat []).1.v, .int .i64 (best (plainQ Q) s s.toNat []).2]) ∧ Below w1.heap.size w1 w') := fun hg d w1 ad c hd => by
    obtain ⟨s0, s9⟩ := ok_size hg
    exact specBest_any d w1.heap.size s (plainQ Q) (plain_ok hg) (by rw [plain_length]; exact h1) s.toNat [] ad c w1.heap.size 0 w1 (by omega) (by omega) (by simp; omega) (Nat.le_refl _) (Nat.le_refl _) hd ⟨rfl, fun j hj => by simp at hj⟩
  have HPN := hide (fun k h => plain_next Q k h)
  have HP0 : Hid (plainQ (Q.take 0) = []) := rfl
  have HPL : Hid (∀ k, k ≤ Q.length → (plainQ (Q.take k)).length = k) := fun k h => by rw [plain_length, List.length_take]; omega
  have HPE : Hid (plainQ (Q.take Q.length) = plainQ Q) := by show _ = _; rw [List.take_length]
  obtain ⟨a, n, c, rfl, hE⟩ := hv
  obtain ⟨hL, hc⟩ := hE
  rw [hL] at HPE h1 HPL
  have HC := hide hc
  have HL := hide hL
  generalize mostC s Q = V at HR HR0 ⊢
  generalize (best (plainQ Q) s s.toNat []) = T at HR BS
  obtain ⟨T, TN⟩ := T
  generalize graphOk s Q = gk at OK HR HR0 BS
  obtain ⟨i1, hi1, hz0, hz1, hz2⟩ := info_parts infoEdge
  clear hc hL
  go_enter Try.func11, Try.ntmps11
  go_wp2_with fail
  obtain ⟨V1, hV1⟩ : ∃ W, W = w.alloc (Obj.cells #[Value.int .i64 s, Value.slice a n c] 26) := ⟨_, rfl⟩
  rw [← hV1]
  have x1 : GBox V1 w.heap.size s (.slice a n c) := by rw [hV1]; exact GBox.new _ _ _
  have b1 : Below w.heap.size w V1 := by rw [hV1]; exact below_new _ _
  clear hV1
  refine (unhide OK V1 b1).mono ?_
  rintro e w2 ⟨rfl, hb2⟩
  have x2 := x1.below hb2
  have b2 := b1.trans (hb2.mono b1.size)
  obtain ⟨p0, p1⟩ := x2.cells
  have z2 := x2.lt
  clear hb2 x1 OK b1
  cases gk
  · have hR := unhide HR0 rfl
    subst hR
    go_wp2
    go_ret
    exact ⟨rfl, b2⟩
  · have hR := unhide HR rfl
    subst hR
    have BS2 := hide (unhide BS rfl)
    clear HR HR0 BS
    obtain ⟨V3, hV3⟩ : ∃ W, W = w2.alloc (Obj.cells #[Value.int .i64 s, Value.slice none 0 0] 26) := ⟨_, rfl⟩
    have HX3 : Hid (GBox V3 w.heap.size s (.slice a n c)) := by show GBox _ _ _ _; rw [hV3]; exact x2.below (below_new _ _)
    have HU3 : Hid (GBox V3 w2.heap.size s (.slice none 0 0)) := by show GBox _ _ _ _; rw [hV3]; exact GBox.new _ _ _
    have b3 : Below w.heap.size w V3 := by rw [hV3]; exact b2.alloc b2.size _
    have HO3 : Hid (World.ownsRow V3 (w2.heap.size + 1) 64 5 (.slice none 0 0) 0 (edgesV (plainQ (Q.take 0)))) := ⟨by rw [unhide HP0]; rfl, .inl ⟨rfl, rfl⟩⟩
    obtain ⟨q0, q1⟩ := (unhide HX3).cells
    rw [hV3] at q0 q1
    have hg2 := b2.size
    clear x2
    go_wp2_with fail
    rw [← hV3]
    clear hV3 q0 q1 p0 p1 b2
    generalize w2.heap.size = g at HX3 HU3 HO3 hg2 z2
    go_loopw [4] (fun i wr => ∃ k : Nat, i = .int .i64 (k : Int) ∧ k ≤ n ∧ Below w.heap.size w wr ∧ ∃ A C, Hid (GBox wr g s (.slice A k C)) ∧ Hid (World.ownsRow wr (g + 1) 64 5 (.slice A k C) k (edgesV (plainQ (Q.take k)))) ∧ Hid (GBox wr w.heap.size s (.slice a n c))) (fun i _ => n - (intOf i).toNat)
    case atStart => exact ⟨0, rfl, Nat.zero_le _, b3, none, 0, unhide HU3, unhide HO3, unhide HX3⟩
    case round =>
      clear HU3 HO3 b3 HX3
      obtain ⟨k, rfl, hk, hb, A, C, HU, HO, HX⟩ := hrel
      have hgl := (unhide HU).lt
      by_cases hlt : k < n
      · have hkQ : k < Q.length := by have := unhide HL; omega
        obtain ⟨b, off, rfl, hbB, c0, c1, c2, c3, c4⟩ := unhide HC k hkQ
        rw [← hb.cell (p := ⟨b, off + k * 5, none⟩) (by simp; omega)] at c0
        rw [← hb.cell (p := ⟨b, off + k * 5 + 1, none⟩) (by simp; omega)] at c1
        rw [← hb.cell (p := ⟨b, off + k * 5 + 2, none⟩) (by simp; omega)] at c2
        rw [← hb.cell (p := ⟨b, off + k * 5 + 3, none⟩) (by simp; omega)] at c3
        rw [← hb.cell (p := ⟨b, off + k * 5 + 4, none⟩) (by simp; omega)] at c4
        have HS := hide (unhide HPN k hkQ)
        generalize Q[k] = q at c0 c1 c2 c3 c4 HS
        obtain ⟨y0, y1, y2, y3, y4⟩ := q
        simp only at c0 c1 c2 c3 c4 HS
        have hx2 : (k : Int) < (n : Int) := by omega
        have hx0 : (0 : Int) ≤ (k : Int) := by omega
        have hn5 : k + 1 ≤ 1048576 := by omega
        have HO' := hide (unhide HO)
        obtain ⟨q0, q1⟩ := (unhide HU).cells
        have hjm : k + 1 ≤ maxLen := by unfold maxLen; omega
        obtain ⟨p0, p1⟩ := (unhide HX).cells
        have hgl2 : ∀ g', (Value.slice A k C).ownBlock = some g' → g < g' := fun g' hg => by have := ((unhide HO).lt g' hg).1; omega
        have hzb := hb.size
        have OA : World.ownsRow (wr.alloc (Obj.cells #[Value.int .i64 y0, Value.int .i64 y1, Value.int .i64 1, Value.int .i64 0, Value.int .i64 0] 64)).drew (g + 1) 64 5 (.slice A k C) k (edgesV (plainQ (Q.take k))) := ((unhide HO').alloc _).drew
        have HNW : ∀ j u, [Value.int .i64 y0, Value.int .i64 y1, Value.int .i64 1, Value.int .i64 0, Value.int .i64 0][j]? = some u → (wr.alloc (Obj.cells #[Value.int .i64 y0, Value.int .i64 y1, Value.int .i64 1, Value.int .i64 0, Value.int .i64 0] 64)).drew.cell? ((⟨wr.heap.size, 0, none⟩ : Addr).add j) = some u := fun j u h => news_edge wr y0 y1 1 0 0 64 j u h
        have HSA : (wr.alloc (Obj.cells #[Value.int .i64 y0, Value.int .i64 y1, Value.int .i64 1, Value.int .i64 0, Value.int .i64 0] 64)).drew.heap.size = wr.heap.size + 1 := by show (wr.alloc _).heap.size = _; simp
        have HSB : g + 1 ≤ (wr.alloc (Obj.cells #[Value.int .i64 y0, Value.int .i64 y1, Value.int .i64 1, Value.int .i64 0, Value.int .i64 0] 64)).drew.heap.size := by omega
        have hk140 : (k + 1) * 40 ≤ 140737488355328 := by omega
        have hHSA := hide HSA
        have HUD : Hid (GBox (wr.alloc (Obj.cells #[Value.int .i64 y0, Value.int .i64 y1, Value.int .i64 1, Value.int .i64 0, Value.int .i64 0] 64)).drew g s (.slice A k C)) := (unhide HU).below (below_new wr (Obj.cells #[Value.int .i64 y0, Value.int .i64 y1, Value.int .i64 1, Value.int .i64 0, Value.int .i64 0] 64)).drew
        have HXD : Hid (GBox (wr.alloc (Obj.cells #[Value.int .i64 y0, Value.int .i64 y1, Value.int .i64 1, Value.int .i64 0, Value.int .i64 0] 64)).drew w.heap.size s (.slice (some ⟨b, off, none⟩) n c)) := (unhide HX).below (below_new wr (Obj.cells #[Value.int .i64 y0, Value.int .i64 y1, Value.int .i64 1, Value.int .i64 0, Value.int .i64 0] 64)).drew
        have HBD : Hid (Below w.heap.size w (wr.alloc (Obj.cells #[Value.int .i64 y0, Value.int .i64 y1, Value.int .i64 1, Value.int .i64 0, Value.int .i64 0] 64)).drew) := (hb.alloc hb.size _).drew
        have HFIN : Hid (∀ ga cap w14, World.ownsRow w14 (g + 1) 64 5 (.slice (some ⟨ga, 0, none⟩) (k + 1) cap) (k + 1) (edgesV (plainQ (Q.take k)) ++ [.int .i64 y0, .int .i64 y1, .int .i64 1, .int .i64 0, .int .i64 0]) → (wr.alloc (Obj.cells #[Value.int .i64 y0, Value.int .i64 y1, Value.int .i64 1, Value.int .i64 0, Value.int .i64 0] 64)).drew.grownBy w14 (Value.slice A k C).ownBlock →
            ∃ A' C', Hid (GBox (w14.setCell ⟨g, 1, none⟩ (.slice (some ⟨ga, 0, none⟩) (k + 1) cap)) g s (.slice A' (k + 1) C')) ∧ Hid (World.ownsRow (w14.setCell ⟨g, 1, none⟩ (.slice (some ⟨ga, 0, none⟩) (k + 1) cap)) (g + 1) 64 5 (.slice A' (k + 1) C') (k + 1) (edgesV (plainQ (Q.take (k + 1))))) ∧ Hid (GBox (w14.setCell ⟨g, 1, none⟩ (.slice (some ⟨ga, 0, none⟩) (k + 1) cap)) w.heap.size s (.slice (some ⟨b, off, none⟩) n c)) ∧ Below w.heap.size w (w14.setCell ⟨g, 1, none⟩ (.slice (some ⟨ga, 0, none⟩) (k + 1) cap))) := fun ga cap w14 hown14 hgrow14 => by
          have u10 := (unhide HUD).kept (Gr.Kept.of_grown hgrow14) (fun e => absurd (hgl2 _ e) (Nat.lt_irrefl _))
          have hsn : edgesV (plainQ (Q.take k)) ++ [.int .i64 y0, .int .i64 y1, .int .i64 1, .int .i64 0, .int .i64 0] = edgesV (plainQ (Q.take (k + 1))) := by rw [unhide HS]; exact (edgesV_snoc _ ⟨y0, y1, 1, 0, 0⟩).symm
          rw [hsn] at hown14
          have hk11 : Kept (fun i => i = g) w14 (w14.setCell ⟨g, 1, none⟩ (.slice (some ⟨ga, 0, none⟩) (k + 1) cap)) := Gr.Kept.set (S := fun i => i = g) _ _ _ _ rfl
          have bA := unhide HBD
          have b10 : Below w.heap.size w w14 := bA.grown hgrow14 bA.size (fun k hk => by have := hgl2 _ hk; omega)
          have HX14 := (unhide HXD).kept (Gr.Kept.of_grown hgrow14) (fun e => by have := hgl2 _ e; omega)
          exact ⟨some ⟨ga, 0, none⟩, cap, u10.one (.slice (some ⟨ga, 0, none⟩) (k + 1) cap), hk11.own hown14 (fun g' hg e => by have := (hown14.lt g' hg).1; omega), HX14.kept hk11 (show ¬ w.heap.size = g by omega), b10.trans (hk11.below b10.size (fun i hi => by omega))⟩
        clear HSA hb HO HU HX HO' HXD HBD HS
        go_wp2_with fail
        go_region_law
          (first
            | (refine step_append_lies _ (by rfl) _ _ _ (by rfl) (g + 1) 64 i1 _ 5 40 Try.underlying24 hi1 hz0 hz1 hz2 rfl (by omega) (.slice A k C) k (edgesV (plainQ (Q.take k))) (by rfl) OA ⟨wr.heap.size, 0, none⟩ 1 1 [.int .i64 y0, .int .i64 y1, .int .i64 1, .int .i64 0, .int .i64 0] (by rfl) (by rfl) HNW (edge_one _ _ _ _ _) (by omega) hjm hk140 HSB (wr.heap.size + 1) (unhide hHSA) ?_; intro ga cap w14 hown14 hgrow14 hat14 hlt14; have HU14 := hide ((unhide HUD).kept (Gr.Kept.of_grown hgrow14) (fun e => absurd (hgl2 _ e) (Nat.lt_irrefl _))); have t0 := (unhide HU14).cells.2; have tf := (unhide HU14).froz 1))
        all_goals
          have HF := hide (unhide HFIN ga cap w14 hown14 hgrow14)
          clear hown14 hgrow14 hat14 hlt14 HU14 t0 tf q0 q1 p0 p1 hgl2 HFIN OA HNW HSB hHSA HUD c0 c1 c2 c3 c4
          go_wp2
          go_roundw
          case rel =>
            obtain ⟨A', C', HU', HO2, HX', hb'⟩ := unhide HF
            exact ⟨k + 1, by go_num, by omega, hb', A', C', HU', HO2, HX'⟩
          case measure => simp [intOf]; omega
      · obtain rfl : k = n := by omega
        obtain ⟨q0, q1⟩ := (unhide HU).cells
        obtain ⟨p0, p1⟩ := (unhide HX).cells
        have HG : Hid (GrAt wr (.agg #[.int .i64 s, .slice A k C]) wr.heap.size s (plainQ Q)) := by
          have ho := unhide HO
          rw [unhide HPE] at ho
          obtain ⟨a', c', e2, hE⟩ := edgesAt.of_own ho
          simp at e2
          obtain ⟨rfl, rfl⟩ := e2
          exact ⟨_, _, _, rfl, hE⟩
        have BSW : Hid (Calls Try.prog 34 #[.agg #[.int .i64 s, .slice A k C], .int .i64 0, .slice (some ⟨wr.heap.size, 0, none⟩) 0 0] (wr.alloc (Obj.cells #[] 3)) _) := unhide BS2 _ _ _ _ (((unhide HG).below (below_new wr (Obj.cells #[] 3)) (Nat.le_refl _)).mono (by simp))
        have bq : Below w.heap.size w (wr.alloc (Obj.cells #[] 3)) := hb.alloc hb.size _
        clear HU HO BS2 HG HX
        go_wp2_with fail
        refine (unhide BSW).mono ?_
        rintro e w8 ⟨rfl, hb8⟩
        unfold SumsI.v
        have b8 := bq.trans (hb8.mono bq.size)
        have HB9 := hide (fun o => b8.alloc b8.size o)
        clear hb8
        go_wp2_with fail
        go_ret
        exact ⟨rfl, unhide HB9 _⟩

end Lk
end Go.Proofs.Ytfhclbpbjlbebaa
