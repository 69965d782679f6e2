/-
  Texts of this claim, one behind the other: GrPre, GrImplG, GrImplH, GrImpl11.
-/
import Derived.Test.YtdaihbgabamaiaaJ1
import Derived.Test.YtdaihbgabamaiaaJ9
import Derived.Test.YtdaihbgabamaiaaJ5
import Derived.Test.YtdaihbgabamaiaaJ4
import Derived.Laws.EntriesVeiled

/-
  A region that draws its order, of two parts: the first operations only read (their callees read and make new memory alone), and none of the others can come up before all of those have. The first part is walked once, in the order of the text.
-/
namespace Go.Proofs.Ytdaihbgabamaiaa
namespace Gr
open Go.RowKit

section
variable {P : Program} {md : Region.Mode} {ops : Array Oper} {C : World → Prop}

/-- All of the first K are listed. -/
def preAll (K : Nat) (listed : Array Bool) : Bool := (List.range K).all fun i => listed.getD i false

/-- Whatever is listed, so is what it waits for; and none behind the first K is. -/
def Shut (md : Region.Mode) (ops : Array Oper) (K : Nat) (listed : Array Bool) : Prop :=
  (∀ i o, ops[i]? = some o → listed.getD i false = true → ∀ e ∈ o.after, Region.binds md e = true → listed.getD e.on false = true) ∧ ∀ j, K ≤ j → listed.getD j false = false

/-- Each behind K waits for one that is not among the first K, and each of the first K is waited for by a later one, up to K. -/
def tailB (md : Region.Mode) (ops : Array Oper) (K : Nat) : Bool :=
  ((List.range ops.size).all fun j => decide (j ≤ K) || ((ops[j]?).map (·.after.any fun e => Region.binds md e && decide (K ≤ e.on))).getD false) &&
  ((List.range K).all fun i => (List.range (K + 1)).any fun i' => decide (i < i') && ((ops[i']?).map (·.after.any fun e => Region.binds md e && (e.on == i))).getD false)

theorem tail_waits {K : Nat} {listed : Array Bool} (hT : tailB md ops K = true) (hS : Shut md ops K listed) {j : Nat} (hj : j ∈ Region.ready md ops listed) (hK : K ≤ j) : preAll K listed = true := by
  unfold tailB at hT
  rw [Bool.and_eq_true, List.all_eq_true, List.all_eq_true] at hT
  obtain ⟨h1, h2⟩ := hT
  obtain ⟨hun, o, ho, hall⟩ := mem_ready.1 hj
  have hjs : j < ops.size := (Array.getElem?_eq_some_iff.1 ho).1
  have hjK : j = K := by
    have := h1 j (List.mem_range.2 hjs)
    rw [Bool.or_eq_true, decide_eq_true_eq] at this
    rcases this with h | h
    · omega
    · rw [ho] at h
      simp only [Option.map_some, Option.getD_some, Array.any_eq_true, Bool.and_eq_true, decide_eq_true_eq] at h
      obtain ⟨x, hx, hb, hk⟩ := h
      have := hall _ (Array.getElem_mem hx) hb
      rw [hS.2 _ hk] at this
      cases this
  subst hjK
  have key : ∀ n i, i < j → j - i ≤ n → listed.getD i false = true := by
    intro n
    induction n with
    | zero => intro i hi hn; omega
    | succ n ih =>
      intro i hi hn
      have := h2 i (List.mem_range.2 hi)
      rw [List.any_eq_true] at this
      obtain ⟨i', hi', hh⟩ := this
      rw [List.mem_range] at hi'
      rw [Bool.and_eq_true, decide_eq_true_eq] at hh
      obtain ⟨hlt, hh⟩ := hh
      cases ho' : ops[i']? with
      | none => rw [ho'] at hh; simp at hh
      | some o' =>
        rw [ho'] at hh
        simp only [Option.map_some, Option.getD_some, Array.any_eq_true, Bool.and_eq_true, beq_iff_eq] at hh
        obtain ⟨x, hx, hb, hk⟩ := hh
        rcases Nat.lt_or_ge i' j with h | h
        · have := hS.1 i' o' ho' (ih i' h (by omega)) _ (Array.getElem_mem hx) hb
          rw [hk] at this
          exact this
        · have e : i' = j := by omega
          subst e
          rw [ho] at ho'
          obtain rfl := Option.some.inj ho'
          have := hall _ (Array.getElem_mem hx) hb
          rw [hk] at this
          exact this
  unfold preAll
  rw [List.all_eq_true]
  intro i hi
  exact key j i (List.mem_range.1 hi) (by omega)

theorem Shut.add {K : Nat} {listed : Array Bool} (hS : Shut md ops K listed) {j : Nat} (hj : j ∈ Region.ready md ops listed) (hK : j < K) : Shut md ops K (listed.setIfInBounds j true) := by
  obtain ⟨hun, o, ho, hall⟩ := mem_ready.1 hj
  refine ⟨fun i oi hi hl e he hb => ?_, fun k hk => ?_⟩
  · by_cases hij : j = i
    · subst hij
      rw [ho] at hi
      obtain rfl := Option.some.inj hi
      exact getD_set_true (hall e he hb)
    · rw [getD_set_ne false hij] at hl
      exact getD_set_true (hS.1 i oi hi hl e he hb)
  · rw [getD_set_ne false (by omega)]
    exact hS.2 k hk

/-- Whatever order is picked of the first K; what is asked behind them. -/
def wpPre (P : Program) (md : Region.Mode) (ops : Array Oper) (C : World → Prop) (K : Nat) (Q : Nat → Array Bool → Act → Prop) : Nat → Array Bool → Act → Prop
  | 0, listed, a => preAll K listed = true ∧ Q 0 listed a
  | fuel + 1, listed, a => (preAll K listed = true ∧ Q (fuel + 1) listed a) ∨ (preAll K listed = false ∧ Region.ready md ops listed ≠ [] ∧ ∀ i ∈ Region.ready md ops listed, qOp P ops C i (wpPre P md ops C K Q fuel (listed.setIfInBounds i true)) a)

theorem wpAny_of_pre {K : Nat} {Q : Nat → Array Bool → Act → Prop} {Q' : Exit → Act → World → Prop} (hQ : ∀ fuel listed a w, C w → Q fuel listed a → wpAny P md ops Q' fuel listed a w) : ∀ (fuel : Nat) (listed : Array Bool) (a : Act) (w : World), C w →
    wpPre P md ops C K Q fuel listed a → wpAny P md ops Q' fuel listed a w
  | 0, _, _, _, hw, h => hQ _ _ _ _ hw h.2
  | fuel + 1, _, _, _, hw, h => by
    rcases h with h | ⟨_, hne, h⟩
    · exact hQ _ _ _ _ hw h.2
    · exact ⟨fun h0 => absurd h0 hne, fun i hi => wpOp_of_qOp hw (fun a' w' hw' => wpAny_of_pre hQ fuel _ a' w' hw') (h i hi)⟩

theorem not_pre {K : Nat} {listed : Array Bool} {i : Nat} (hi : i < K) (hun : listed.getD i true = false) : preAll K listed = false := by
  rw [Bool.eq_false_iff]
  intro h
  unfold preAll at h
  rw [List.all_eq_true] at h
  have h1 := h i (List.mem_range.2 hi)
  rcases Nat.lt_or_ge i listed.size with h' | h'
  · simp [h'] at h1 hun
    rw [h1] at hun
    cases hun
  · simp [Array.getElem?_eq_none h'] at h1

theorem wpPre_first {K : Nat} {Q : Nat → Array Bool → Act → Prop} {i : Nat} {oi : Oper} {v : Value} (hT : tailB md ops K = true) (hiK : i < K) (hi : ops[i]? = some oi) (hsel : ∀ (j : Nat) (o : Oper) cs b, ops[j]? = some o → o.op ≠ .select cs b) :
    ∀ (fuel : Nat) (listed : Array Bool) (a : Act), Shut md ops K listed →
      (∀ j oj, ops[j]? = some oj → j ≠ i → listed.getD j true = false → (∀ e ∈ oj.after, Region.binds md e = true → e.on ≠ i) → oi.apart ops oj = true) →
      i ∈ Region.ready md ops listed → YieldsIn P ops C oi v a →
      wpPre P md ops C K Q fuel (listed.setIfInBounds i true) (a.put oi.dst v) → wpPre P md ops C K Q (fuel + 1) listed a := by
  intro fuel
  induction fuel with
  | zero =>
    intro listed a hS _ hr hy H
    have hun := (mem_ready.1 hr).1
    refine .inr ⟨not_pre hiK hun, fun h => (by rw [h] at hr; cases hr), fun j hj => ?_⟩
    by_cases hji : j = i
    · subst hji; exact hy.qOp hi H
    · have hjun := (mem_ready.1 hj).1
      have hjK : j < K := by
        rcases Nat.lt_or_ge j K with h | h
        · exact h
        · have := tail_waits hT hS hj h
          rw [not_pre hiK hun] at this
          cases this
      have := H.1
      rw [not_pre hjK (by rw [getD_set_ne true (Ne.symm hji)]; exact hjun)] at this
      cases this
  | succ fuel ih =>
    intro listed a hS hfree hr hy H
    have hun := (mem_ready.1 hr).1
    refine .inr ⟨not_pre hiK hun, fun h => (by rw [h] at hr; cases hr), fun j hj => ?_⟩
    by_cases hji : j = i
    · subst hji; exact hy.qOp hi H
    · have hjun' := (mem_ready.1 hj).1
      have hjK : j < K := by
        rcases Nat.lt_or_ge j K with h | h
        · exact h
        · have := tail_waits hT hS hj h
          rw [not_pre hiK hun] at this
          cases this
      rcases H with H | H
      · have := H.1
        rw [not_pre hjK (by rw [getD_set_ne true (Ne.symm hji)]; exact hjun')] at this
        cases this
      · have h1 := H.2.2 j (ready_mono hj hji)
        obtain ⟨hjun, oj, hoj, hall⟩ := mem_ready.1 hj
        have hnot : ∀ e ∈ oj.after, Region.binds md e = true → e.on ≠ i := fun e he hb heq => by
          have h1 := hall e he hb
          have h0 := (mem_ready.1 hr).1
          rw [heq] at h1
          rcases Nat.lt_or_ge i listed.size with h' | h'
          · simp [h'] at h0 h1; rw [h0] at h1; cases h1
          · simp [Array.getElem?_eq_none h'] at h1
        have h2 := qOp_put hoj (hfree j oj hoj hji hjun hnot) (fun cs b => hsel i oi cs b hi) (fun cs b => hsel j oj cs b hoj) hy h1
        have hfree' : ∀ k ok, ops[k]? = some ok → k ≠ i → (listed.setIfInBounds j true).getD k true = false →
            (∀ e ∈ ok.after, Region.binds md e = true → e.on ≠ i) → oi.apart ops ok = true := fun k ok hk hki hun hno => by
          refine hfree k ok hk hki ?_ hno
          by_cases hjk : j = k
          · subst hjk; exact hjun
          · rw [getD_set_ne true hjk] at hun; exact hun
        refine qOp_mono (fun a' h3 => ih (listed.setIfInBounds j true) a' (hS.add hj hjK) hfree' (ready_mono hr (Ne.symm hji)) h3.1 ?_) h2
        rw [Array.setIfInBounds_comm _ _ hji]
        exact h3.2

/-- The first K, in the order of the text. -/
def preFrom (md : Region.Mode) (ops : Array Oper) (K : Nat) : Nat → Nat → Array Bool → Bool
  | 0, _, listed => preAll K listed
  | n + 1, k, listed => (Region.ready md ops listed).contains k && Region.free md ops listed k && preFrom md ops K n (k + 1) (listed.setIfInBounds k true)

/-- What is listed behind them. -/
def preEnd : Nat → Nat → Array Bool → Array Bool
  | 0, _, listed => listed
  | n + 1, k, listed => preEnd n (k + 1) (listed.setIfInBounds k true)

theorem wpPre_lex {K : Nat} {Q : Nat → Array Bool → Act → Prop} (m : Nat) (hs : Region.noSelect ops = true) (hT : tailB md ops K = true) : ∀ (l : List Oper) (k : Nat) (listed : Array Bool) (a : Act), k + l.length = K → (∀ j, j < l.length → l[j]? = ops[k + j]?) → Shut md ops K listed →
    preFrom md ops K l.length k listed = true → wpQuiet P ops C (Q m (preEnd l.length k listed)) l a → wpPre P md ops C K Q (l.length + m) listed a
  | [], _, _, _, _, _, _, hB, h => by
    rw [List.length_nil, Nat.zero_add]
    cases m with
    | zero => exact ⟨hB, h⟩
    | succ m => exact .inl ⟨hB, h⟩
  | o :: l, k, listed, a, hk, hl, hS, hB, h => by
    rw [List.length_cons] at hk
    have h0 : ops[k]? = some o := by simpa using (hl 0 (by simp)).symm
    simp only [List.length_cons, preFrom, Bool.and_eq_true] at hB
    obtain ⟨⟨hr, hf⟩, hB'⟩ := hB
    have hr' : k ∈ Region.ready md ops listed := by simpa using hr
    have hst : qOp P ops C k (wpQuiet P ops C (Q m (preEnd (l.length + 1) k listed)) l) a := by unfold qOp; simp only [h0]; exact h
    obtain ⟨v, hy, hK⟩ := yieldsIn_of_qOp h0 hst
    have e : (o :: l).length + m = (l.length + m) + 1 := by rw [List.length_cons]; omega
    rw [e]
    exact wpPre_first hT (by omega) h0 (Region.noSelect_spec hs) (l.length + m) listed a hS (Region.free_spec h0 hf) hr' hy
      (wpPre_lex m hs hT l (k + 1) _ _ (by omega) (fun j hj => by have := hl (j + 1) (by rw [List.length_cons]; omega); simpa [Nat.add_assoc, Nat.add_comm 1 j] using this) (hS.add hr' (by omega)) hB' hK)

theorem shut_none (md : Region.Mode) (ops : Array Oper) (K n : Nat) : Shut md ops K (Array.replicate n false) := by
  have h0 : ∀ i : Nat, (Array.replicate n false).getD i false = false := fun i => by
    rcases Nat.lt_or_ge i n with h | h
    · simp [h]
    · simp [h]
  exact ⟨fun i o _ hl => (by rw [h0] at hl; cases hl), fun j _ => h0 j⟩

end

theorem wp_region_pre {P : Program} {id : Nat} {Q : Exit → Act → World → Prop} {a : Act} {w : World} {l : List Oper} (N K m : Nat) (L : Array Bool) (hm : P.follows .mixedOrders = true) (hs : Region.noSelect l.toArray = true) (hT : tailB .any l.toArray K = true) (hP : preFrom .any l.toArray K K 0 (Array.replicate l.toArray.size false) = true) (hL : preEnd K 0 (Array.replicate l.toArray.size false) = L) (hsz : l.length = K + m)
    (h : wpQuiet P l.toArray (fun w' => ∃ d : Grown N w, w' = d.w) (fun a' => ∀ w', (∃ d : Grown N w, w' = d.w) → wpAny P .any l.toArray Q m L a' w') (l.take K) a) : (Code.region id l.toArray true).wp P Q a w := by
  refine wp_region_any hm ?_
  have hlen : (l.take K).length = K := by rw [List.length_take]; omega
  have := wpPre_lex (P := P) (md := .any) (ops := l.toArray) (C := fun w' => ∃ d : Grown N w, w' = d.w) (K := K) (Q := fun fuel listed a' => ∀ w', (∃ d : Grown N w, w' = d.w) → wpAny P .any l.toArray Q fuel listed a' w') m hs hT (l.take K) 0 (Array.replicate l.toArray.size false) a (by rw [hlen]; omega) (fun j hj => by
    rw [hlen] at hj
    rw [Nat.zero_add, List.getElem?_take_of_lt hj]
    simp) (shut_none _ _ _ _) (by rw [hlen]; exact hP) (by rw [hlen, hL]; exact h)
  rw [hlen] at this
  have e : l.toArray.size = K + m := by rw [List.size_toArray]; exact hsz
  have hfin := wpAny_of_pre (Q' := Q) (fun fuel listed a w' hw hq => hq w' hw) (K + m) (Array.replicate l.toArray.size false) a w.drew ⟨⟨w.drew, (Below.refl N w).drew⟩, rfl⟩ this
  rw [← e] at hfin
  exact hfin

end Gr
end Go.Proofs.Ytdaihbgabamaiaa

/-
  The contracts of impl.isNextCouple and impl.MatchOk.
-/
namespace Go.Proofs.Ytdaihbgabamaiaa
namespace Gr
open Go.RowKit

/-- Whether a couple may stand behind another one. -/
def nextC (Q : List EdgeI) (p : Option CoupleI) (x : CoupleI) : Bool := decide (x.A < x.B) && (decide (0 ≤ atFrom x.A x.B 0 Q) && aheadC p x)

theorem at_least (x y : Int) (Q : List EdgeI) : atFrom x y 0 Q = -1 ∨ 0 ≤ atFrom x y 0 Q := by
  by_cases h : ∃ e ∈ Q, hit x y e = true
  · obtain ⟨i, _, _, _, e⟩ := at_some x y Q 0 h
    omega
  · exact Or.inl (at_none x y Q 0 (fun e he hh => h ⟨e, he, hh⟩))

theorem asc_length : ∀ (M : List CoupleI) (lo : Int), (∀ x ∈ M, lo ≤ x.A ∧ x.A < 9) → M.Pairwise (fun x y => x.A < y.A) → lo ≤ 9 → (M.length : Int) ≤ 9 - lo
  | [], lo, _, _, h => by simp; omega
  | x :: r, lo, h, hp, h9 => by
    obtain ⟨h1, h2⟩ := List.pairwise_cons.1 hp
    have hx := h x List.mem_cons_self
    have := asc_length r (x.A + 1) (fun y hy => ⟨by have := h1 y hy; omega, (h y (List.mem_cons_of_mem _ hy)).2⟩) h2 (by omega)
    rw [List.length_cons]
    omega

theorem match_nolen (s : Int) (Q : List EdgeI) (M : List CoupleI) : matchOk s Q M = (graphOk s Q && mFrom Q none [] M) := by
  unfold matchOk
  cases hg : graphOk s Q with
  | false => rfl
  | true =>
    cases hm : mFrom Q none [] M with
    | false => simp
    | true =>
      obtain ⟨i1, i2, _⟩ := match_pm hg M none [] hm
      obtain ⟨_, h9, _, _⟩ := graph_sound hg
      have := asc_length M 0 (fun x hx => by have := i1 x hx; omega) (i2.imp (fun h => h.1)) (by omega)
      have h : M.length ≤ 9 := by omega
      simp [h]

theorem next_range {s : Int} {Q : List EdgeI} (hg : graphOk s Q = true) {p : Option CoupleI} {x : CoupleI} (h : nextC Q p x = true) : 0 ≤ x.A ∧ x.A < x.B ∧ x.B < 9 := by
  unfold nextC at h
  simp only [Bool.and_eq_true, decide_eq_true_eq] at h
  obtain ⟨h1, h3, _⟩ := h
  obtain ⟨_, h9, hok, _⟩ := graph_sound hg
  obtain ⟨i, hi, _, _, hh⟩ := edgeN_at h3
  have hek := hok _ (List.getElem_mem hi)
  have he := (edgeOk_iff s _).1 hek
  have hh2 := ((hit_iff hek h1).1).1 hh
  omega

set_option maxRecDepth 100000 in
set_option maxHeartbeats 4000000 in
theorem isNext_any (B : Nat) (v : Value) (s : Int) (Q : List EdgeI) (a : Option Addr) (n c : Nat) (M : List CoupleI) (hg : graphOk s Q = true) (h1 : Q.length ≤ 1048576) (h2 : n ≤ 1048576) (j : Nat) (hj : j < M.length) (w : World) (hB : B ≤ w.heap.size) (hv : GrAt w v B s Q) (hM : couplesAt w a n B M) :
    Calls Try.prog 63 #[v, .slice a n c, .int .i64 (j : Int)] w fun e w' => e = .returned (.bool (nextC Q (prevC M j) M[j])) ∧ Below w.heap.size w w' := by
  have EA := hide (fun x y w1 (hb : Below w.heap.size w w1) => implEdgeAt_gen B v s Q x y h1 w1 (by have := hb.size; omega) (hv.below hb hB))
  have hEV : ∀ x y, edgeAtV s x y Q = atFrom x y 0 Q := fun x y => by unfold edgeAtV; rw [if_pos hg]
  simp only [hEV] at EA
  obtain ⟨a0, n0, c0, rfl, _⟩ := hv
  obtain ⟨hL, hc⟩ := hM
  obtain ⟨b, off, rfl, hbB, c1, c2⟩ := hc j hj
  have hr : nextC Q (prevC M j) M[j] = (decide (M[j].A < M[j].B) && (decide (0 ≤ atFrom M[j].A M[j].B 0 Q) && aheadC (prevC M j) M[j])) := rfl
  have HP : Hid (∀ k, j = k + 1 → ∃ q, prevC M j = some q ∧ w.cell? ⟨b, off + k * 2, none⟩ = some (.int .i64 q.A)) := fun k hk => by
    have hk1 : k < M.length := by omega
    obtain ⟨b', off', e', _, k0, _⟩ := hc k hk1
    simp at e'
    obtain ⟨rfl, rfl⟩ := e'
    refine ⟨M[k], ?_, k0⟩
    unfold prevC
    rw [if_neg (by omega), hk]
    simp [hk1]
  have HZ : Hid (j = 0 → prevC M j = none) := fun h => by unfold prevC; rw [if_pos h]
  have hjn : (j : Int) < (n : Int) := by omega
  clear hc
  generalize nextC Q (prevC M j) M[j] = R at hr ⊢
  generalize M[j] = x at hr c1 c2
  generalize prevC M j = p at hr HP HZ
  obtain ⟨x0, x1⟩ := x
  simp only at hr c1 c2
  have EA' := hide (fun w1 hb => unhide EA x0 x1 w1 hb)
  clear EA
  obtain ⟨r, hrr⟩ : ∃ r, r = atFrom x0 x1 0 Q := ⟨_, rfl⟩
  have hr01 : r = -1 ∨ 0 ≤ r := by rw [hrr]; exact at_least x0 x1 Q
  rw [← hrr] at hr EA'
  clear hrr hEV hg h1
  have hneb : ¬ b = w.heap.size := by omega
  have hbl : b < w.heap.size := by omega
  have hnb2 : ¬ b = w.heap.size + 1 := by omega
  have step : ∀ (V : World), V = (w.alloc (Obj.cells #[Value.int .i64 s, Value.slice a0 n0 c0] 34)).alloc (Obj.cells #[Value.int .i64 x0, Value.int .i64 x1] 79) → Below w.heap.size w V ∧ Blk V w.heap.size #[Value.int .i64 s, Value.slice a0 n0 c0] 34 ∧ Blk V (w.heap.size + 1) #[Value.int .i64 x0, Value.int .i64 x1] 79 := by
    rintro V rfl
    exact ⟨(below_new _ _).alloc (by simp) _, Blk.new0.alloc, Blk.new1⟩
  have HSTEP := hide step
  clear step
  by_cases t : x0 < x1
  · rw [decide_eq_true t, Bool.true_and] at hr
    rcases hr01 with hr1 | hr1
    · rw [decide_eq_false (by omega), Bool.false_and] at hr
      subst hr
      rw [hr1] at EA'
      go_enter Try.func63, Try.ntmps63
      go_wp2_with fail
      obtain ⟨V, hV⟩ : ∃ W, W = (w.alloc (Obj.cells #[Value.int .i64 s, Value.slice a0 n0 c0] 34)).alloc (Obj.cells #[Value.int .i64 x0, Value.int .i64 x1] 79) := ⟨_, rfl⟩
      rw [← hV]
      obtain ⟨bV, m0, m1⟩ := unhide HSTEP V hV
      clear hV HSTEP
      have hz0 := m0.lt
      have hz1 := m1.lt
      have k0 : ∀ d : Grown V.heap.size V, d.w.cell? ⟨w.heap.size, 0, none⟩ = some (.int .i64 s) := fun d => d.cell hz0 (m0.cell 0 _ rfl)
      have k1 : ∀ d : Grown V.heap.size V, d.w.cell? ⟨w.heap.size, 1, none⟩ = some (.slice a0 n0 c0) := fun d => d.cell hz0 (m0.cell 1 _ rfl)
      have k2 : ∀ d : Grown V.heap.size V, d.w.cell? ⟨w.heap.size + 1, 0, none⟩ = some (.int .i64 x0) := fun d => d.cell hz1 (m1.cell 0 _ rfl)
      have k3 : ∀ d : Grown V.heap.size V, d.w.cell? ⟨w.heap.size + 1, 1, none⟩ = some (.int .i64 x1) := fun d => d.cell hz1 (m1.cell 1 _ rfl)
      have E2 : Hid (∀ d : Grown V.heap.size V, Calls Try.prog 65 #[.agg #[.int .i64 s, .slice a0 n0 c0], .int .i64 x0, .int .i64 x1] d.w fun e w' => e = .returned (.int .i64 (-1)) ∧ Below d.w.heap.size d.w w') := fun d => unhide EA' d.w (bV.trans (d.below.mono bV.size))
      clear m0 m1 EA'
      refine wp_region_grown V.heap.size (by kernel_rfl) (by kernel_rfl) ?_
      repeat (go_big_quiet_step (first | (go_at_call 65; exact Calls.grown (Nat.le_refl _) (unhide E2 _))))
      refine wpQuiet_nil ?_
      rintro w5 ⟨d5, rfl⟩
      go_wp2_with fail
      go_ret
      exact ⟨rfl, bV.trans (d5.below.mono bV.size)⟩
    · rw [decide_eq_true hr1, Bool.true_and] at hr
      have hrn : ¬ r = -1 := by omega
      have hrb : (r != -1) = true := by simp; omega
      rcases Nat.eq_zero_or_pos j with hj0 | hj0
      · have hp := unhide HZ hj0
        subst hp
        have HJ0 := hide hj0
        clear hj0
        simp only [aheadC] at hr
        subst hr
        go_enter Try.func63, Try.ntmps63
        go_wp2_with fail
        obtain ⟨V, hV⟩ : ∃ W, W = (w.alloc (Obj.cells #[Value.int .i64 s, Value.slice a0 n0 c0] 34)).alloc (Obj.cells #[Value.int .i64 x0, Value.int .i64 x1] 79) := ⟨_, rfl⟩
        rw [← hV]
        obtain ⟨bV, m0, m1⟩ := unhide HSTEP V hV
        clear hV HSTEP
        have hz0 := m0.lt
        have hz1 := m1.lt
        have k0 : ∀ d : Grown V.heap.size V, d.w.cell? ⟨w.heap.size, 0, none⟩ = some (.int .i64 s) := fun d => d.cell hz0 (m0.cell 0 _ rfl)
        have k1 : ∀ d : Grown V.heap.size V, d.w.cell? ⟨w.heap.size, 1, none⟩ = some (.slice a0 n0 c0) := fun d => d.cell hz0 (m0.cell 1 _ rfl)
        have k2 : ∀ d : Grown V.heap.size V, d.w.cell? ⟨w.heap.size + 1, 0, none⟩ = some (.int .i64 x0) := fun d => d.cell hz1 (m1.cell 0 _ rfl)
        have k3 : ∀ d : Grown V.heap.size V, d.w.cell? ⟨w.heap.size + 1, 1, none⟩ = some (.int .i64 x1) := fun d => d.cell hz1 (m1.cell 1 _ rfl)
        have E2 : Hid (∀ d : Grown V.heap.size V, Calls Try.prog 65 #[.agg #[.int .i64 s, .slice a0 n0 c0], .int .i64 x0, .int .i64 x1] d.w fun e w' => e = .returned (.int .i64 r) ∧ Below d.w.heap.size d.w w') := fun d => unhide EA' d.w (bV.trans (d.below.mono bV.size))
        have hj0' : (j : Int) = 0 := by have := unhide HJ0; omega
        have hj0b : ((j : Int) == 0) = true := by simp; omega
        clear m0 m1 EA'
        refine wp_region_grown V.heap.size (by kernel_rfl) (by kernel_rfl) ?_
        repeat (go_big_quiet_step (first | (go_at_call 65; exact Calls.grown (Nat.le_refl _) (unhide E2 _))))
        refine wpQuiet_nil ?_
        rintro w5 ⟨d5, rfl⟩
        go_wp2_with fail
        go_ret
        exact ⟨rfl, bV.trans (d5.below.mono bV.size)⟩
      · obtain ⟨k, hk⟩ : ∃ k, j = k + 1 := ⟨j - 1, by omega⟩
        obtain ⟨q, hp, hq⟩ := unhide HP k hk
        subst hp
        simp only [aheadC] at hr
        subst hr
        have hwk : IntKind.i64.wrap ((j : Int) - 1) = (k : Int) := by rw [wrap_in _ (by omega)]; omega
        have hk0 : ¬ (j : Int) = 0 := by omega
        have hk0b : ((j : Int) == 0) = false := by simp; omega
        have hkn : (k : Int) < (n : Int) := by omega
        clear hk
        go_enter Try.func63, Try.ntmps63
        go_wp2_with fail
        obtain ⟨V, hV⟩ : ∃ W, W = (w.alloc (Obj.cells #[Value.int .i64 s, Value.slice a0 n0 c0] 34)).alloc (Obj.cells #[Value.int .i64 x0, Value.int .i64 x1] 79) := ⟨_, rfl⟩
        rw [← hV]
        obtain ⟨bV, m0, m1⟩ := unhide HSTEP V hV
        clear hV HSTEP
        have hz0 := m0.lt
        have hz1 := m1.lt
        have k0 : ∀ d : Grown V.heap.size V, d.w.cell? ⟨w.heap.size, 0, none⟩ = some (.int .i64 s) := fun d => d.cell hz0 (m0.cell 0 _ rfl)
        have k1 : ∀ d : Grown V.heap.size V, d.w.cell? ⟨w.heap.size, 1, none⟩ = some (.slice a0 n0 c0) := fun d => d.cell hz0 (m0.cell 1 _ rfl)
        have k2 : ∀ d : Grown V.heap.size V, d.w.cell? ⟨w.heap.size + 1, 0, none⟩ = some (.int .i64 x0) := fun d => d.cell hz1 (m1.cell 0 _ rfl)
        have k3 : ∀ d : Grown V.heap.size V, d.w.cell? ⟨w.heap.size + 1, 1, none⟩ = some (.int .i64 x1) := fun d => d.cell hz1 (m1.cell 1 _ rfl)
        have E2 : Hid (∀ d : Grown V.heap.size V, Calls Try.prog 65 #[.agg #[.int .i64 s, .slice a0 n0 c0], .int .i64 x0, .int .i64 x1] d.w fun e w' => e = .returned (.int .i64 r) ∧ Below d.w.heap.size d.w w') := fun d => unhide EA' d.w (bV.trans (d.below.mono bV.size))
        have k4 : ∀ d : Grown V.heap.size V, d.w.cell? ⟨b, off + k * 2, none⟩ = some (.int .i64 q.A) := fun d => d.cell (by omega) ((bV.cell (p := ⟨b, off + k * 2, none⟩) (by simp; omega)).trans hq)
        clear m0 m1 EA'
        refine wp_region_grown V.heap.size (by kernel_rfl) (by kernel_rfl) ?_
        repeat (go_big_quiet_step (first | (go_at_call 65; exact Calls.grown (Nat.le_refl _) (unhide E2 _))))
        refine wpQuiet_nil ?_
        rintro w5 ⟨d5, rfl⟩
        go_wp2_with fail
        go_ret
        exact ⟨rfl, bV.trans (d5.below.mono bV.size)⟩
  · rw [decide_eq_false t, Bool.false_and] at hr
    subst hr
    have t' : x1 ≤ x0 := by omega
    have t'' : decide (x0 < x1) = false := decide_eq_false t
    go_enter Try.func63, Try.ntmps63
    go_wp2_with fail
    obtain ⟨V, hV⟩ : ∃ W, W = (w.alloc (Obj.cells #[Value.int .i64 s, Value.slice a0 n0 c0] 34)).alloc (Obj.cells #[Value.int .i64 x0, Value.int .i64 x1] 79) := ⟨_, rfl⟩
    rw [← hV]
    obtain ⟨bV, m0, m1⟩ := unhide HSTEP V hV
    clear hV HSTEP
    have hz0 := m0.lt
    have hz1 := m1.lt
    have k0 : ∀ d : Grown V.heap.size V, d.w.cell? ⟨w.heap.size, 0, none⟩ = some (.int .i64 s) := fun d => d.cell hz0 (m0.cell 0 _ rfl)
    have k1 : ∀ d : Grown V.heap.size V, d.w.cell? ⟨w.heap.size, 1, none⟩ = some (.slice a0 n0 c0) := fun d => d.cell hz0 (m0.cell 1 _ rfl)
    have k2 : ∀ d : Grown V.heap.size V, d.w.cell? ⟨w.heap.size + 1, 0, none⟩ = some (.int .i64 x0) := fun d => d.cell hz1 (m1.cell 0 _ rfl)
    have k3 : ∀ d : Grown V.heap.size V, d.w.cell? ⟨w.heap.size + 1, 1, none⟩ = some (.int .i64 x1) := fun d => d.cell hz1 (m1.cell 1 _ rfl)
    have E2 : Hid (∀ d : Grown V.heap.size V, Calls Try.prog 65 #[.agg #[.int .i64 s, .slice a0 n0 c0], .int .i64 x0, .int .i64 x1] d.w fun e w' => e = .returned (.int .i64 r) ∧ Below d.w.heap.size d.w w') := fun d => unhide EA' d.w (bV.trans (d.below.mono bV.size))
    clear m0 m1 EA'
    refine wp_region_grown V.heap.size (by kernel_rfl) (by kernel_rfl) ?_
    repeat (go_big_quiet_step (first | (go_at_call 65; exact Calls.grown (Nat.le_refl _) (unhide E2 _))))
    refine wpQuiet_nil ?_
    rintro w5 ⟨d5, rfl⟩
    go_wp2_with fail
    go_ret
    exact ⟨rfl, bV.trans (d5.below.mono bV.size)⟩

end Gr
end Go.Proofs.Ytdaihbgabamaiaa

/-
  The contract of impl.MatchOk.
-/
namespace Go.Proofs.Ytdaihbgabamaiaa
namespace Gr
open Go.RowKit

theorem mFrom_next (Q : List EdgeI) (M : List CoupleI) (U : List Int) (k : Nat) (h : k < M.length) : mFrom Q (prevC M k) U (M.drop k) = (nextC Q (prevC M k) M[k] && (!inK U M[k].A && (!inK U M[k].B && mFrom Q (prevC M (k + 1)) (U ++ [M[k].A, M[k].B]) (M.drop (k + 1))))) := by
  rw [mFrom_step Q M U k h]
  unfold nextC
  generalize decide (M[k].A < M[k].B) = p1
  generalize decide (0 ≤ atFrom M[k].A M[k].B 0 Q) = p2
  generalize aheadC (prevC M k) M[k] = p3
  cases p1 <;> cases p2 <;> cases p3 <;> simp

set_option maxRecDepth 100000 in
set_option maxHeartbeats 4000000 in
theorem implMatch_any (v : Value) (B : Nat) (s : Int) (Q : List EdgeI) (a : Option Addr) (n c : Nat) (M : List CoupleI) (h1 : Q.length ≤ 1048576) (h2 : n ≤ 1048576) (w : World) (hB : B ≤ w.heap.size) (hv : GrAt w v B s Q) (hM : couplesAt w a n B M) :
    Calls Try.prog 45 #[v, .slice a n c] w fun e w' => e = .returned (.bool (matchOk s Q M)) ∧ Below w.heap.size w w' := by
  have OK := hide (fun w1 (hb : Below w.heap.size w w1) => implGraph_gen B v s Q h1 w1 (by have := hb.size; omega) (hv.below hb hB))
  have NX := hide (fun (hg : graphOk s Q = true) j hj w1 (hb : Below w.heap.size w w1) => isNext_any B v s Q a n c M hg h1 h2 j hj w1 (by have := hb.size; omega) (hv.below hb hB) (hM.below hb hB))
  obtain ⟨a0, n0, c0, rfl, _⟩ := hv
  have hmk := match_nolen s Q M
  have HRG : Hid (graphOk s Q = true → ∀ p x, nextC Q p x = true → 0 ≤ x.A ∧ x.A < x.B ∧ x.B < 9) := fun hg p x h => next_range hg h
  generalize graphOk s Q = gk at OK NX HRG hmk
  obtain ⟨hL, hc⟩ := hM
  have HC := hide hc
  have HL := hide hL
  generalize matchOk s Q M = R at hmk ⊢
  clear hc hL h1
  go_enter Try.func45, Try.ntmps45
  go_wp2_with fail
  obtain ⟨V1, hV1⟩ : ∃ W, W = w.alloc (Obj.cells #[Value.int .i64 s, Value.slice a0 n0 c0] 34) := ⟨_, rfl⟩
  rw [← hV1]
  have x1 : GBox V1 w.heap.size s (.slice a0 n0 c0) := by rw [hV1]; exact GBox.new _ _ _
  have b1 : Below w.heap.size w V1 := by rw [hV1]; exact below_new _ _
  clear hV1
  refine (unhide OK V1 b1).mono ?_
  rintro e w2 ⟨rfl, hb2⟩
  have x2 := x1.below hb2
  have b2 : Below w.heap.size w w2 := b1.trans (hb2.mono b1.size)
  have hx2 := x2.lt
  clear hb2 b1 x1
  cases gk
  · rw [Bool.false_and] at hmk
    subst hmk
    go_wp2
    go_ret
    exact ⟨rfl, b2⟩
  · rw [Bool.true_and] at hmk
    have HST := hide (fun U k h => mFrom_next Q M U k h)
    have HEND : Hid (∀ U, mFrom Q (prevC M n) U (M.drop n) = true) := fun U => by rw [← unhide HL, List.drop_length]; cases prevC M M.length <;> rfl
    have H0 : Hid (R = mFrom Q (prevC M 0) [] (M.drop 0)) := hmk
    have NXT := hide (unhide NX rfl)
    have HRGT := hide (unhide HRG rfl)
    have HX2 := hide x2
    clear hmk x2 NX HRG OK
    go_wp2_with fail
    go_loopw [13] (fun i wr => ∃ (j : Nat) (U : List Int), i = .int .i64 (j : Int) ∧ j ≤ n ∧ Hid (R = mFrom Q (prevC M j) U (M.drop j)) ∧ Hid (Blk wr w2.heap.size (flags U) 99) ∧ Below w2.heap.size w2 wr) (fun i _ => n - (intOf i).toNat)
    case atStart => exact ⟨0, [], rfl, Nat.zero_le _, unhide H0, (by rw [flags_nil]; exact Blk.new0), below_new _ _⟩
    case round =>
      obtain ⟨j, U, rfl, hj, HR, HF, hb⟩ := hrel
      have hsr := hb.size
      have hbw : Below w.heap.size w wr := b2.trans (hb.mono b2.size)
      have hfl := (unhide HF).lt
      by_cases hlt : j < n
      · have hjL : j < M.length := by have := unhide HL; omega
        obtain ⟨b, off, rfl, hbB, c1, c2⟩ := unhide HC j hjL
        rw [← hbw.cell (p := ⟨b, off + j * 2, none⟩) (by simp; omega)] at c1
        rw [← hbw.cell (p := ⟨b, off + j * 2 + 1, none⟩) (by simp; omega)] at c2
        have hr := (unhide HR).trans (unhide HST U j hjL)
        have NJ := hide (unhide NXT j hjL)
        have RJ := hide (unhide HRGT (prevC M j) M[j])
        generalize nextC Q (prevC M j) M[j] = nx at NJ hr RJ
        generalize M[j] = x at hr c1 c2 RJ
        obtain ⟨y0, y1⟩ := x
        simp only at c1 c2 hr RJ
        obtain ⟨p0, p1⟩ := ((unhide HX2).below hb).cells
        have hbl : b < wr.heap.size := by omega
        have hbn : ¬ b = wr.heap.size := by omega
        have hgn : ¬ w.heap.size = wr.heap.size := by omega
        have hgl : w.heap.size < wr.heap.size := by omega
        have bx : Below wr.heap.size wr (wr.alloc (Obj.cells #[Value.int .i64 y0, Value.int .i64 y1] 79)) := below_new _ _
        have bx' := hbw.trans (bx.mono hbw.size)
        have ux : Blk (wr.alloc (Obj.cells #[Value.int .i64 y0, Value.int .i64 y1] 79)) wr.heap.size #[Value.int .i64 y0, Value.int .i64 y1] 79 := Blk.new0
        go_wp2_with fail
        obtain ⟨V3, hV3⟩ : ∃ W, W = wr.alloc (Obj.cells #[Value.int .i64 y0, Value.int .i64 y1] 79) := ⟨_, rfl⟩
        rw [← hV3] at bx bx' ux ⊢
        clear hV3
        refine (unhide NJ V3 bx').mono ?_
        rintro e w4 ⟨rfl, hb4⟩
        have b4 : Below wr.heap.size wr w4 := bx.trans (hb4.mono bx.size)
        have b4' : Below w.heap.size w w4 := hbw.trans (b4.mono hbw.size)
        have b4'' : Below w2.heap.size w2 w4 := hb.trans (b4.mono hb.size)
        have u4 := ux.below hb4
        have F4 := (unhide HF).below b4
        have HF4 := hide F4
        clear c1 c2 p0 p1 bx bx' ux hb4 F4
        have d0 : w4.cell? ⟨wr.heap.size, 0, none⟩ = some (.int .i64 y0) := u4.cell 0 _ rfl
        have d1 : w4.cell? ⟨wr.heap.size, 1, none⟩ = some (.int .i64 y1) := u4.cell 1 _ rfl
        cases nx with
        | false =>
          rw [Bool.false_and] at hr
          subst hr
          go_wp2_with fail
          go_ret
          exact ⟨rfl, b4'⟩
        | true =>
          rw [Bool.true_and] at hr
          obtain ⟨q0, q1, q2⟩ := unhide RJ rfl
          obtain ⟨z0, rfl⟩ := Int.eq_ofNat_of_zero_le q0
          obtain ⟨z1, rfl⟩ := Int.eq_ofNat_of_zero_le (show 0 ≤ y1 by omega)
          have f0 : w4.cell? ⟨w2.heap.size, z0, none⟩ = some (.bool (inK U (z0 : Int))) := (unhide HF4).cell z0 _ (flags_at U z0 (by omega))
          have f1 : w4.cell? ⟨w2.heap.size, z1, none⟩ = some (.bool (inK U (z1 : Int))) := (unhide HF4).cell z1 _ (flags_at U z1 (by omega))
          have hx09 : (z0 : Int) < 9 := by omega
          have hx19 : (z1 : Int) < 9 := by omega
          cases hu0 : inK U (z0 : Int) with
          | true =>
            rw [hu0] at f0 hr
            rw [Bool.not_true, Bool.false_and] at hr
            subst hr
            go_wp2_with fail
            go_ret
            exact ⟨rfl, b4'⟩
          | false =>
            rw [hu0] at f0 hr
            rw [Bool.not_false, Bool.true_and] at hr
            cases hu1 : inK U (z1 : Int) with
            | true =>
              rw [hu1] at f1 hr
              rw [Bool.not_true, Bool.false_and] at hr
              subst hr
              go_wp2_with fail
              go_ret
              exact ⟨rfl, b4'⟩
            | false =>
              rw [hu1] at f1 hr
              rw [Bool.not_false, Bool.true_and] at hr
              have t0 := (unhide HF4).froz z0
              have t1 := (unhide HF4).froz z1
              have hx01 : ¬ z0 = z1 := by omega
              have HRN := hide hr
              clear hr
              go_wp2_with fail
              go_region
              go_wp2_with fail
              refine ⟨⟨j + 1, U ++ [(z0 : Int), (z1 : Int)], by go_num, by omega, unhide HRN, ?_, ?_⟩, by simp [intOf]; omega⟩
              · have := (((unhide HF4).set z0 (.bool true)).set z1 (.bool true))
                rw [flags_two U z0 z1 (by omega) (by omega)] at this
                exact this.drew
              · exact ((b4''.setCell (p := ⟨w2.heap.size, z0, none⟩) (Nat.le_refl _) _).setCell (p := ⟨w2.heap.size, z1, none⟩) (Nat.le_refl _) _).drew
      · have hjn : j = n := by omega
        subst hjn
        have hrr := (unhide HR).trans (unhide HEND U)
        subst hrr
        go_wp2_with fail
        go_ret
        exact ⟨rfl, hbw⟩

theorem implMatch_gen (B : Nat) (v : Value) (s : Int) (Q : List EdgeI) (u : Value) (M : List CoupleI) (h1 : Q.length ≤ 1048576) (h2 : M.length ≤ 1048576) (w : World) (hB : B ≤ w.heap.size) (hv : GrAt w v B s Q) (hu : CoAt w u B M) :
    Calls Try.prog 45 #[v, u] w fun e w' => e = .returned (.bool (matchOk s Q M)) ∧ Below w.heap.size w w' := by
  obtain ⟨a, c, rfl, hM⟩ := hu
  exact implMatch_any v B s Q a M.length c M h1 h2 w hB hv hM
end Gr
end Go.Proofs.Ytdaihbgabamaiaa

/-
  The contracts of impl.scalarsOf and impl.Certifies. (With GrCk3: the program's contracts of chapter 11, in the form that a law's walk asks for.)
-/
namespace Go.Proofs.Ytdaihbgabamaiaa
namespace Gr
open Go.RowKit

set_option maxRecDepth 100000 in
set_option maxHeartbeats 2000000 in
theorem scalars_any (B : Nat) (v : Value) (s : Int) (Q : List EdgeI) (u : Value) (M : List CoupleI) (hok : matchOk s Q M = true) (h1 : Q.length ≤ 1048576) (w : World) (hB : B ≤ w.heap.size) (hv : GrAt w v B s Q) (hu : CoAt w u B M) :
    Calls Try.prog 46 #[v, u] w fun e w' => e = .returned (.int .i64 (wsum (sums Q M))) ∧ Below w.heap.size w w' := by
  have AT := hide (fun x y w1 (hb : Below w.heap.size w w1) => implEdgeAt_gen B v s Q x y h1 w1 (by have := hb.size; omega) (hv.below hb hB))
  obtain ⟨a0, n0, c0, rfl, hE⟩ := hv
  obtain ⟨hL0, hc0⟩ := hE
  obtain ⟨a, c, rfl, hM⟩ := hu
  obtain ⟨_, hc⟩ := hM
  obtain ⟨hg, h9, hm⟩ := match_sound hok
  have hEV : ∀ x y, edgeAtV s x y Q = atFrom x y 0 Q := fun x y => by unfold edgeAtV; rw [if_pos hg]
  simp only [hEV] at AT
  clear hEV
  have HED : Hid (∀ k (h : k < M.length), ∃ i, ∃ h' : i < Q.length, atFrom M[k].A M[k].B 0 Q = (i : Int) ∧ edgeN Q (atFrom M[k].A M[k].B 0 Q) = Q[i] ∧ edgeOk s Q[i] = true) := fun k h => by
    obtain ⟨i, hi, e1, e2, _⟩ := edgeN_at (mFrom_at Q M none [] hm _ (List.getElem_mem h))
    exact ⟨i, hi, e1, e2, (graph_sound hg).2.2.1 _ (List.getElem_mem hi)⟩
  have HST := hide (fun s k h => sumsFrom_step Q M s k h)
  have HEND : Hid (∀ s, sumsFrom Q s (M.drop M.length) = s) := fun s => by rw [List.drop_length]; rfl
  have H0 : Hid (sums Q M = sumsFrom Q ⟨0, 0, 0⟩ (M.drop 0)) := rfl
  generalize sums Q M = T at H0 ⊢
  have HC0 := hide hc0
  have HL0 := hide hL0
  have HC := hide hc
  obtain ⟨n, hn⟩ : ∃ n, M.length = n := ⟨_, rfl⟩
  rw [hn] at HEND h9
  rw [hn]
  have HN := hide hn
  have HN0 : Hid (n0 ≤ 1048576) := by show _ ≤ _; omega
  clear hc0 hL0 hc hok hm hg h1 hn
  go_enter Try.func46, Try.ntmps46
  go_wp2_with fail
  obtain ⟨V1, hV1⟩ : ∃ W, W = w.alloc (Obj.cells #[Value.int .i64 s, Value.slice a0 n0 c0] 34) := ⟨_, rfl⟩
  rw [← hV1]
  have b1 : Below w.heap.size w V1 := by rw [hV1]; exact below_new _ _
  have x1 : GBox V1 w.heap.size s (.slice a0 n0 c0) := by rw [hV1]; exact GBox.new _ _ _
  have hx1l := x1.lt
  have HX1 := hide x1
  clear hV1 x1
  go_loopw [5, 10] (fun nn i wr => ∃ (j : Nat) (t : SumsI) (N : Int), i = .int .i64 (j : Int) ∧ nn = .int .i64 N ∧ Hid (N = wsum t) ∧ j ≤ n ∧ Hid (T = sumsFrom Q t (M.drop j)) ∧ Hid (SB t (j : Int)) ∧ Below V1.heap.size V1 wr) (fun _ i _ => n - (intOf i).toNat)
  case atStart => exact ⟨0, ⟨0, 0, 0⟩, 0, rfl, rfl, rfl, Nat.zero_le _, unhide H0, SB.zero _ (by omega), Below.refl _ _⟩
  case round =>
    obtain ⟨j, t, N, rfl, rfl, HNE, hj, HR, HSB, hb⟩ := hrel
    have b4 : Below w.heap.size w wr := b1.trans (hb.mono b1.size)
    by_cases hlt : j < n
    · have hjL : j < M.length := by have := unhide HN; omega
      obtain ⟨b, off, rfl, hbB, c0', c1'⟩ := unhide HC j hjL
      obtain ⟨i, hiQ, e1, e2, heok⟩ := unhide HED j hjL
      obtain ⟨b', off', rfl, hbB', d0, d1, d2, d3, d4⟩ := unhide HC0 i hiQ
      have hr := (unhide HR).trans (unhide HST t j hjL)
      have AT1 := hide (unhide AT M[j].A M[j].B)
      have hsn := (unhide HSB).add heok
      have hws := wsum_add (unhide HSB) (by omega) heok
      rw [e1] at AT1
      rw [e2] at hr
      generalize M[j] = mm at c0' c1' AT1
      have SC := hide (fun w => implScalar_any Q[i] w)
      generalize Q[i] = q at d0 d1 d2 d3 d4 hr hsn SC hws
      rw [← unhide HNE] at hws
      obtain ⟨hws0, hws1, hws2, hws3, hws4⟩ := hws
      generalize scal q = sc at SC hws0 hws1 hws2
      obtain ⟨m0, m1⟩ := mm
      obtain ⟨y0, y1, y2, y3, y4⟩ := q
      unfold EdgeI.v at SC
      simp only at c0' c1' AT1 d0 d1 d2 d3 d4 SC
      have HSN := hide hsn
      have HRN := hide hr
      have hx1 : (j : Int) < (n : Int) := by omega
      have hi1 : (i : Int) < (n0 : Int) := by have := unhide HL0; omega
      rw [← b4.cell (p := ⟨b, off + j * 2, none⟩) (by simp; omega)] at c0'
      rw [← b4.cell (p := ⟨b, off + j * 2 + 1, none⟩) (by simp; omega)] at c1'
      go_upto_region 5 with fail
      obtain ⟨V3, hV3⟩ : ∃ W, W = wr.alloc (Obj.cells #[Value.int .i64 m0, Value.int .i64 m1] 79) := ⟨_, rfl⟩
      rw [← hV3]
      have n3 : Below wr.heap.size wr V3 := by rw [hV3]; exact below_new _ _
      have mc : Blk V3 wr.heap.size #[Value.int .i64 m0, Value.int .i64 m1] 79 := by rw [hV3]; exact Blk.new0
      have b3 := b4.trans (n3.mono b4.size)
      have hb3 : Below V1.heap.size V1 V3 := hb.trans (n3.mono hb.size)
      have zc := mc.lt
      clear hV3
      obtain ⟨p0, p1⟩ := ((unhide HX1).below hb3).cells
      have hgl : w.heap.size < V3.heap.size := by have := hb3.size; omega
      have hbl' : b' < V3.heap.size := by have := b3.size; omega
      have k0 : ∀ d : Grown V3.heap.size V3, d.w.cell? ⟨w.heap.size, 0, none⟩ = some (.int .i64 s) := fun d => d.cell hgl p0
      have k1 : ∀ d : Grown V3.heap.size V3, d.w.cell? ⟨w.heap.size, 1, none⟩ = some (.slice (some ⟨b', off', none⟩) n0 c0) := fun d => d.cell hgl p1
      have k2 : ∀ d : Grown V3.heap.size V3, d.w.cell? ⟨wr.heap.size, 0, none⟩ = some (.int .i64 m0) := fun d => d.cell zc (mc.cell 0 _ rfl)
      have k3 : ∀ d : Grown V3.heap.size V3, d.w.cell? ⟨wr.heap.size, 1, none⟩ = some (.int .i64 m1) := fun d => d.cell zc (mc.cell 1 _ rfl)
      have D0 : ∀ d : Grown V3.heap.size V3, d.w.cell? ⟨b', off' + i * 5, none⟩ = some (.int .i64 y0) := fun d => d.cell hbl' ((b3.cell (p := ⟨b', off' + i * 5, none⟩) (by simp; omega)).trans d0)
      have D1 : ∀ d : Grown V3.heap.size V3, d.w.cell? ⟨b', off' + i * 5 + 1, none⟩ = some (.int .i64 y1) := fun d => d.cell hbl' ((b3.cell (p := ⟨b', off' + i * 5 + 1, none⟩) (by simp; omega)).trans d1)
      have D2 : ∀ d : Grown V3.heap.size V3, d.w.cell? ⟨b', off' + i * 5 + 2, none⟩ = some (.int .i64 y2) := fun d => d.cell hbl' ((b3.cell (p := ⟨b', off' + i * 5 + 2, none⟩) (by simp; omega)).trans d2)
      have D3 : ∀ d : Grown V3.heap.size V3, d.w.cell? ⟨b', off' + i * 5 + 3, none⟩ = some (.int .i64 y3) := fun d => d.cell hbl' ((b3.cell (p := ⟨b', off' + i * 5 + 3, none⟩) (by simp; omega)).trans d3)
      have D4 : ∀ d : Grown V3.heap.size V3, d.w.cell? ⟨b', off' + i * 5 + 4, none⟩ = some (.int .i64 y4) := fun d => d.cell hbl' ((b3.cell (p := ⟨b', off' + i * 5 + 4, none⟩) (by simp; omega)).trans d4)
      have A2 : Hid (∀ d : Grown V3.heap.size V3, Calls Try.prog 65 #[.agg #[.int .i64 s, .slice (some ⟨b', off', none⟩) n0 c0], .int .i64 m0, .int .i64 m1] d.w fun e w' => e = .returned (.int .i64 (i : Int)) ∧ Below d.w.heap.size d.w w') := fun d => unhide AT1 d.w (b3.trans (d.below.mono b3.size))
      have wn : IntKind.i64.wrap (N + sc) = N + sc := wrap_in _ (by omega)
      have HWS : Hid (N + sc = wsum (addS t ⟨y0, y1, y2, y3, y4⟩)) := hws0.symm
      have HB := hide hb3
      clear hr HR hsn p0 p1 c0' c1' mc d0 d1 d2 d3 d4 hb hb3 HNE AT1 hws0
      refine wp_region_grown V3.heap.size (by kernel_rfl) (by kernel_rfl) ?_
      repeat (go_big_quiet_step (first
        | (go_at_call 65; exact Calls.grown (Nat.le_refl _) (unhide A2 _))
        | (go_at_call 64; exact Calls.grown (Nat.le_refl _) (unhide SC _))))
      refine wpQuiet_nil ?_
      rintro w5 ⟨d5, rfl⟩
      clear k0 k1 k2 k3 D0 D1 D2 D3 D4
      go_wp2_with fail
      exact ⟨⟨j + 1, _, _, by go_num, rfl, unhide HWS, by omega, unhide HRN, unhide HSN, (unhide HB).trans (d5.below.mono (unhide HB).size)⟩, by simp [intOf]; omega⟩
    · obtain rfl : j = n := by omega
      have hT := (unhide HR).trans (unhide HEND t)
      subst hT
      have hN := unhide HNE
      subst hN
      go_wp2_with fail
      go_ret
      exact ⟨rfl, b4⟩

set_option maxRecDepth 100000 in
set_option maxHeartbeats 2000000 in
theorem implCert_gen (B : Nat) (v : Value) (s : Int) (Q : List EdgeI) (m : Value) (M : List CoupleI) (u : Value) (Y : List Int) (G : List GrpI) (h1 : Q.length ≤ 1048576) (h3 : M.length ≤ 1048576) (h2 : psize Y G ≤ 1048576) (w : World) (hB : B ≤ w.heap.size) (hv : GrAt w v B s Q) (hm : CoAt w m B M) (hu : PrAt w u B Y G) :
    Calls Try.prog 19 #[v, m, u] w fun e w' => e = .returned (.bool (certR s Q M Y G)) ∧ Below w.heap.size w w' := by
  have PK := hide (fun w1 (hb : Below w.heap.size w w1) => implProof_gen B v s Q u Y G h1 h2 w1 (by have := hb.size; omega) (hv.below hb hB) (hu.below hb hB))
  have SM := hide (fun (h : proofOk s Q Y G = true) w1 (hb : Below w.heap.size w w1) => twice_any u B s Y G (proof_sound h).2.1 (proof_sound h).2.2.1 (proof_sound h).2.2.2.2.1 (proof_sound h).2.2.2.2.2 (proof_sound h).2.2.2.1 w1 (by have := hb.size; omega) (hu.below hb hB))
  have WM := hide (fun (h : matchOk s Q M = true) w1 (hb : Below w.heap.size w w1) => scalars_any B v s Q m M h h1 w1 (by have := hb.size; omega) (hv.below hb hB) (hm.below hb hB))
  have MK : Hid (∀ w1, Below w.heap.size w w1 → Calls Try.prog 45 #[v, m] w1 fun e w' => e = .returned (.bool (matchOk s Q M)) ∧ Below w1.heap.size w1 w') := fun w1 hb => by
    obtain ⟨a, c, rfl, hM⟩ := hm
    exact implMatch_any v B s Q a M.length c M h1 h3 w1 (by have := hb.size; omega) (hv.below hb hB) (hM.below hb hB)
  have HBD : Hid (matchOk s Q M = true → 0 ≤ wsum (sums Q M) ∧ wsum (sums Q M) ≤ 90000000) := fun h => sums_range h
  have hV : certR s Q M Y G = (proofOk s Q Y G && (matchOk s Q M && decide (2 * wsum (sums Q M) = sumI Y G))) := rfl
  generalize certR s Q M Y G = V at hV ⊢
  generalize sumI Y G = S at SM hV
  generalize wsum (sums Q M) = T at WM HBD hV
  generalize proofOk s Q Y G = ok at PK SM hV
  generalize matchOk s Q M = mk at MK WM HBD hV
  obtain ⟨a0, n0, c0, rfl, _⟩ := hv
  obtain ⟨am, cm, rfl, _⟩ := hm
  obtain ⟨a, n, c, a', n', c', rfl, _⟩ := hu
  generalize M.length = nm at MK WM
  clear h1 h2 h3
  go_enter Try.func19, Try.ntmps19
  go_wp2_with fail
  obtain ⟨W1, hW1⟩ : ∃ W, W = (w.alloc (Obj.cells #[Value.int .i64 s, Value.slice a0 n0 c0] 34)).alloc (Obj.cells #[Value.slice a n c, Value.slice a' n' c'] 38) := ⟨_, rfl⟩
  rw [← hW1]
  have b1 : Below w.heap.size w W1 := by rw [hW1]; exact (below_new _ _).alloc (by simp) _
  have m0 : Blk W1 w.heap.size #[Value.int .i64 s, Value.slice a0 n0 c0] 34 := by rw [hW1]; exact Blk.new0.alloc
  have m1 : Blk W1 (w.heap.size + 1) #[Value.slice a n c, Value.slice a' n' c'] 38 := by rw [hW1]; exact Blk.new1
  clear hW1
  have z0 := m0.lt
  have z1 := m1.lt
  have k0 : ∀ d : Grown W1.heap.size W1, d.w.cell? ⟨w.heap.size, 0, none⟩ = some (.int .i64 s) := fun d => d.cell z0 (m0.cell 0 _ rfl)
  have k1 : ∀ d : Grown W1.heap.size W1, d.w.cell? ⟨w.heap.size, 1, none⟩ = some (.slice a0 n0 c0) := fun d => d.cell z0 (m0.cell 1 _ rfl)
  have k2 : ∀ d : Grown W1.heap.size W1, d.w.cell? ⟨w.heap.size + 1, 0, none⟩ = some (.slice a n c) := fun d => d.cell z1 (m1.cell 0 _ rfl)
  have k3 : ∀ d : Grown W1.heap.size W1, d.w.cell? ⟨w.heap.size + 1, 1, none⟩ = some (.slice a' n' c') := fun d => d.cell z1 (m1.cell 1 _ rfl)
  have HG : Hid (∀ d : Grown W1.heap.size W1, Below w.heap.size w d.w) := fun d => b1.trans (d.below.mono b1.size)
  have P2 : Hid (∀ d : Grown W1.heap.size W1, Calls Try.prog 11 #[.agg #[.int .i64 s, .slice a0 n0 c0], .agg #[.slice a n c, .slice a' n' c']] d.w fun e w' => e = .returned (.bool ok) ∧ Below d.w.heap.size d.w w') := fun d => unhide PK d.w (unhide HG d)
  have M2 : Hid (∀ d : Grown W1.heap.size W1, Calls Try.prog 45 #[.agg #[.int .i64 s, .slice a0 n0 c0], .slice am nm cm] d.w fun e w' => e = .returned (.bool mk) ∧ Below d.w.heap.size d.w w') := fun d => unhide MK d.w (unhide HG d)
  clear m0 m1 PK MK
  refine wp_region_grown W1.heap.size (by kernel_rfl) (by kernel_rfl) ?_
  cases ok with
  | false =>
    rw [Bool.false_and] at hV
    subst hV
    repeat (go_big_quiet_step (first
      | (go_at_call 11; exact Calls.grown (Nat.le_refl _) (unhide P2 _))))
    refine wpQuiet_nil ?_
    rintro w5 ⟨d5, rfl⟩
    go_wp2_with fail
    go_ret
    exact ⟨rfl, unhide HG d5⟩
  | true =>
    rw [Bool.true_and] at hV
    have S2 : Hid (∀ d : Grown W1.heap.size W1, Calls Try.prog 41 #[.agg #[.slice a n c, .slice a' n' c']] d.w fun e w' => e = .returned (.int .i64 S) ∧ Below d.w.heap.size d.w w') := fun d => unhide SM rfl d.w (unhide HG d)
    cases mk with
    | false =>
      rw [Bool.false_and] at hV
      subst hV
      repeat (go_big_quiet_step (first
        | (go_at_call 11; exact Calls.grown (Nat.le_refl _) (unhide P2 _))
        | (go_at_call 45; exact Calls.grown (Nat.le_refl _) (unhide M2 _))))
      refine wpQuiet_nil ?_
      rintro w5 ⟨d5, rfl⟩
      go_wp2_with fail
      go_ret
      exact ⟨rfl, unhide HG d5⟩
    | true =>
      rw [Bool.true_and] at hV
      obtain ⟨t0, t1⟩ := unhide HBD rfl
      have hw2 : IntKind.i64.wrap (2 * T) = 2 * T := wrap_in _ (by omega)
      have W2 : Hid (∀ d : Grown W1.heap.size W1, Calls Try.prog 46 #[.agg #[.int .i64 s, .slice a0 n0 c0], .slice am nm cm] d.w fun e w' => e = .returned (.int .i64 T) ∧ Below d.w.heap.size d.w w') := fun d => unhide WM rfl d.w (unhide HG d)
      have HV := hide hV
      clear hV
      repeat (go_big_quiet_step (first
        | (go_at_call 11; exact Calls.grown (Nat.le_refl _) (unhide P2 _))
        | (go_at_call 45; exact Calls.grown (Nat.le_refl _) (unhide M2 _))
        | (go_at_call 46; exact Calls.grown (Nat.le_refl _) (unhide W2 _))
        | (go_at_call 41; exact Calls.grown (Nat.le_refl _) (unhide S2 _))))
      refine wpQuiet_nil ?_
      rintro w5 ⟨d5, rfl⟩
      go_wp2_with fail
      go_ret
      refine ⟨?_, unhide HG d5⟩
      have h := unhide HV
      subst h
      first
        | rfl
        | (congr 2; rw [Bool.eq_iff_iff]; simp)
end Gr
end Go.Proofs.Ytdaihbgabamaiaa
