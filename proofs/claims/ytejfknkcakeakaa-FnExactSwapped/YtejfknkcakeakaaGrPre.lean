/-
  A region that draws its order, of two parts: the first operations only read (their callees read and make new memory alone), and none of the others can come up before all of those have. The first part is walked once, in the order of the text.
-/
import Derived.Test.YtejfknkcakeakaaGrGrown
namespace Go.Proofs.Ytejfknkcakeakaa
namespace Gr
open Go.RowKit

section
variable {P : Program} {md : Region.Mode} {ops : Array Oper} {C : World → Prop}

/-- All of the first K are listed. -/
def preAll (K : Nat) (listed : Array Bool) : Bool := (List.range K).all fun i => listed.getD i false

/-- Whatever is listed, so is what it waits for; and none behind the first K is. -/
def Shut (md : Region.Mode) (ops : Array Oper) (K : Nat) (listed : Array Bool) : Prop :=
  (∀ i o, ops[i]? = some o → listed.getD i false = true → ∀ e ∈ o.after, Region.binds md e = true → listed.getD e.on false = true) ∧ ∀ j, K ≤ j → listed.getD j false = false

/-- Each behind K waits for one that is not among the first K, and each of the first K is waited for by a later one, up to K. -/
def tailB (md : Region.Mode) (ops : Array Oper) (K : Nat) : Bool :=
  ((List.range ops.size).all fun j => decide (j ≤ K) || ((ops[j]?).map (·.after.any fun e => Region.binds md e && decide (K ≤ e.on))).getD false) &&
  ((List.range K).all fun i => (List.range (K + 1)).any fun i' => decide (i < i') && ((ops[i']?).map (·.after.any fun e => Region.binds md e && (e.on == i))).getD false)

theorem tail_waits {K : Nat} {listed : Array Bool} (hT : tailB md ops K = true) (hS : Shut md ops K listed) {j : Nat} (hj : j ∈ Region.ready md ops listed) (hK : K ≤ j) : preAll K listed = true := by
  unfold tailB at hT
  rw [Bool.and_eq_true, List.all_eq_true, List.all_eq_true] at hT
  obtain ⟨h1, h2⟩ := hT
  obtain ⟨hun, o, ho, hall⟩ := mem_ready.1 hj
  have hjs : j < ops.size := (Array.getElem?_eq_some_iff.1 ho).1
  have hjK : j = K := by
    have := h1 j (List.mem_range.2 hjs)
    rw [Bool.or_eq_true, decide_eq_true_eq] at this
    rcases this with h | h
    · omega
    · rw [ho] at h
      simp only [Option.map_some, Option.getD_some, Array.any_eq_true, Bool.and_eq_true, decide_eq_true_eq] at h
      obtain ⟨x, hx, hb, hk⟩ := h
      have := hall _ (Array.getElem_mem hx) hb
      rw [hS.2 _ hk] at this
      cases this
  subst hjK
  have key : ∀ n i, i < j → j - i ≤ n → listed.getD i false = true := by
    intro n
    induction n with
    | zero => intro i hi hn; omega
    | succ n ih =>
      intro i hi hn
      have := h2 i (List.mem_range.2 hi)
      rw [List.any_eq_true] at this
      obtain ⟨i', hi', hh⟩ := this
      rw [List.mem_range] at hi'
      rw [Bool.and_eq_true, decide_eq_true_eq] at hh
      obtain ⟨hlt, hh⟩ := hh
      cases ho' : ops[i']? with
      | none => rw [ho'] at hh; simp at hh
      | some o' =>
        rw [ho'] at hh
        simp only [Option.map_some, Option.getD_some, Array.any_eq_true, Bool.and_eq_true, beq_iff_eq] at hh
        obtain ⟨x, hx, hb, hk⟩ := hh
        rcases Nat.lt_or_ge i' j with h | h
        · have := hS.1 i' o' ho' (ih i' h (by omega)) _ (Array.getElem_mem hx) hb
          rw [hk] at this
          exact this
        · have e : i' = j := by omega
          subst e
          rw [ho] at ho'
          obtain rfl := Option.some.inj ho'
          have := hall _ (Array.getElem_mem hx) hb
          rw [hk] at this
          exact this
  unfold preAll
  rw [List.all_eq_true]
  intro i hi
  exact key j i (List.mem_range.1 hi) (by omega)

theorem Shut.add {K : Nat} {listed : Array Bool} (hS : Shut md ops K listed) {j : Nat} (hj : j ∈ Region.ready md ops listed) (hK : j < K) : Shut md ops K (listed.setIfInBounds j true) := by
  obtain ⟨hun, o, ho, hall⟩ := mem_ready.1 hj
  refine ⟨fun i oi hi hl e he hb => ?_, fun k hk => ?_⟩
  · by_cases hij : j = i
    · subst hij
      rw [ho] at hi
      obtain rfl := Option.some.inj hi
      exact getD_set_true (hall e he hb)
    · rw [getD_set_ne false hij] at hl
      exact getD_set_true (hS.1 i oi hi hl e he hb)
  · rw [getD_set_ne false (by omega)]
    exact hS.2 k hk

/-- Whatever order is picked of the first K; what is asked behind them. -/
def wpPre (P : Program) (md : Region.Mode) (ops : Array Oper) (C : World → Prop) (K : Nat) (Q : Nat → Array Bool → Act → Prop) : Nat → Array Bool → Act → Prop
  | 0, listed, a => preAll K listed = true ∧ Q 0 listed a
  | fuel + 1, listed, a => (preAll K listed = true ∧ Q (fuel + 1) listed a) ∨ (preAll K listed = false ∧ Region.ready md ops listed ≠ [] ∧ ∀ i ∈ Region.ready md ops listed, qOp P ops C i (wpPre P md ops C K Q fuel (listed.setIfInBounds i true)) a)

theorem wpAny_of_pre {K : Nat} {Q : Nat → Array Bool → Act → Prop} {Q' : Exit → Act → World → Prop} (hQ : ∀ fuel listed a w, C w → Q fuel listed a → wpAny P md ops Q' fuel listed a w) : ∀ (fuel : Nat) (listed : Array Bool) (a : Act) (w : World), C w →
    wpPre P md ops C K Q fuel listed a → wpAny P md ops Q' fuel listed a w
  | 0, _, _, _, hw, h => hQ _ _ _ _ hw h.2
  | fuel + 1, _, _, _, hw, h => by
    rcases h with h | ⟨_, hne, h⟩
    · exact hQ _ _ _ _ hw h.2
    · exact ⟨fun h0 => absurd h0 hne, fun i hi => wpOp_of_qOp hw (fun a' w' hw' => wpAny_of_pre hQ fuel _ a' w' hw') (h i hi)⟩

theorem not_pre {K : Nat} {listed : Array Bool} {i : Nat} (hi : i < K) (hun : listed.getD i true = false) : preAll K listed = false := by
  rw [Bool.eq_false_iff]
  intro h
  unfold preAll at h
  rw [List.all_eq_true] at h
  have h1 := h i (List.mem_range.2 hi)
  rcases Nat.lt_or_ge i listed.size with h' | h'
  · simp [h'] at h1 hun
    rw [h1] at hun
    cases hun
  · simp [Array.getElem?_eq_none h'] at h1

theorem wpPre_first {K : Nat} {Q : Nat → Array Bool → Act → Prop} {i : Nat} {oi : Oper} {v : Value} (hT : tailB md ops K = true) (hiK : i < K) (hi : ops[i]? = some oi) (hsel : ∀ (j : Nat) (o : Oper) cs b, ops[j]? = some o → o.op ≠ .select cs b) :
    ∀ (fuel : Nat) (listed : Array Bool) (a : Act), Shut md ops K listed →
      (∀ j oj, ops[j]? = some oj → j ≠ i → listed.getD j true = false → (∀ e ∈ oj.after, Region.binds md e = true → e.on ≠ i) → oi.apart ops oj = true) →
      i ∈ Region.ready md ops listed → YieldsIn P ops C oi v a →
      wpPre P md ops C K Q fuel (listed.setIfInBounds i true) (a.put oi.dst v) → wpPre P md ops C K Q (fuel + 1) listed a := by
  intro fuel
  induction fuel with
  | zero =>
    intro listed a hS _ hr hy H
    have hun := (mem_ready.1 hr).1
    refine .inr ⟨not_pre hiK hun, fun h => (by rw [h] at hr; cases hr), fun j hj => ?_⟩
    by_cases hji : j = i
    · subst hji; exact hy.qOp hi H
    · have hjun := (mem_ready.1 hj).1
      have hjK : j < K := by
        rcases Nat.lt_or_ge j K with h | h
        · exact h
        · have := tail_waits hT hS hj h
          rw [not_pre hiK hun] at this
          cases this
      have := H.1
      rw [not_pre hjK (by rw [getD_set_ne true (Ne.symm hji)]; exact hjun)] at this
      cases this
  | succ fuel ih =>
    intro listed a hS hfree hr hy H
    have hun := (mem_ready.1 hr).1
    refine .inr ⟨not_pre hiK hun, fun h => (by rw [h] at hr; cases hr), fun j hj => ?_⟩
    by_cases hji : j = i
    · subst hji; exact hy.qOp hi H
    · have hjun' := (mem_ready.1 hj).1
      have hjK : j < K := by
        rcases Nat.lt_or_ge j K with h | h
        · exact h
        · have := tail_waits hT hS hj h
          rw [not_pre hiK hun] at this
          cases this
      rcases H with H | H
      · have := H.1
        rw [not_pre hjK (by rw [getD_set_ne true (Ne.symm hji)]; exact hjun')] at this
        cases this
      · have h1 := H.2.2 j (ready_mono hj hji)
        obtain ⟨hjun, oj, hoj, hall⟩ := mem_ready.1 hj
        have hnot : ∀ e ∈ oj.after, Region.binds md e = true → e.on ≠ i := fun e he hb heq => by
          have h1 := hall e he hb
          have h0 := (mem_ready.1 hr).1
          rw [heq] at h1
          rcases Nat.lt_or_ge i listed.size with h' | h'
          · simp [h'] at h0 h1; rw [h0] at h1; cases h1
          · simp [Array.getElem?_eq_none h'] at h1
        have h2 := qOp_put hoj (hfree j oj hoj hji hjun hnot) (fun cs b => hsel i oi cs b hi) (fun cs b => hsel j oj cs b hoj) hy h1
        have hfree' : ∀ k ok, ops[k]? = some ok → k ≠ i → (listed.setIfInBounds j true).getD k true = false →
            (∀ e ∈ ok.after, Region.binds md e = true → e.on ≠ i) → oi.apart ops ok = true := fun k ok hk hki hun hno => by
          refine hfree k ok hk hki ?_ hno
          by_cases hjk : j = k
          · subst hjk; exact hjun
          · rw [getD_set_ne true hjk] at hun; exact hun
        refine qOp_mono (fun a' h3 => ih (listed.setIfInBounds j true) a' (hS.add hj hjK) hfree' (ready_mono hr (Ne.symm hji)) h3.1 ?_) h2
        rw [Array.setIfInBounds_comm _ _ hji]
        exact h3.2

/-- The first K, in the order of the text. -/
def preFrom (md : Region.Mode) (ops : Array Oper) (K : Nat) : Nat → Nat → Array Bool → Bool
  | 0, _, listed => preAll K listed
  | n + 1, k, listed => (Region.ready md ops listed).contains k && Region.free md ops listed k && preFrom md ops K n (k + 1) (listed.setIfInBounds k true)

/-- What is listed behind them. -/
def preEnd : Nat → Nat → Array Bool → Array Bool
  | 0, _, listed => listed
  | n + 1, k, listed => preEnd n (k + 1) (listed.setIfInBounds k true)

theorem wpPre_lex {K : Nat} {Q : Nat → Array Bool → Act → Prop} (m : Nat) (hs : Region.noSelect ops = true) (hT : tailB md ops K = true) : ∀ (l : List Oper) (k : Nat) (listed : Array Bool) (a : Act), k + l.length = K → (∀ j, j < l.length → l[j]? = ops[k + j]?) → Shut md ops K listed →
    preFrom md ops K l.length k listed = true → wpQuiet P ops C (Q m (preEnd l.length k listed)) l a → wpPre P md ops C K Q (l.length + m) listed a
  | [], _, _, _, _, _, _, hB, h => by
    rw [List.length_nil, Nat.zero_add]
    cases m with
    | zero => exact ⟨hB, h⟩
    | succ m => exact .inl ⟨hB, h⟩
  | o :: l, k, listed, a, hk, hl, hS, hB, h => by
    rw [List.length_cons] at hk
    have h0 : ops[k]? = some o := by simpa using (hl 0 (by simp)).symm
    simp only [List.length_cons, preFrom, Bool.and_eq_true] at hB
    obtain ⟨⟨hr, hf⟩, hB'⟩ := hB
    have hr' : k ∈ Region.ready md ops listed := by simpa using hr
    have hst : qOp P ops C k (wpQuiet P ops C (Q m (preEnd (l.length + 1) k listed)) l) a := by unfold qOp; simp only [h0]; exact h
    obtain ⟨v, hy, hK⟩ := yieldsIn_of_qOp h0 hst
    have e : (o :: l).length + m = (l.length + m) + 1 := by rw [List.length_cons]; omega
    rw [e]
    exact wpPre_first hT (by omega) h0 (Region.noSelect_spec hs) (l.length + m) listed a hS (Region.free_spec h0 hf) hr' hy
      (wpPre_lex m hs hT l (k + 1) _ _ (by omega) (fun j hj => by have := hl (j + 1) (by rw [List.length_cons]; omega); simpa [Nat.add_assoc, Nat.add_comm 1 j] using this) (hS.add hr' (by omega)) hB' hK)

theorem shut_none (md : Region.Mode) (ops : Array Oper) (K n : Nat) : Shut md ops K (Array.replicate n false) := by
  have h0 : ∀ i : Nat, (Array.replicate n false).getD i false = false := fun i => by
    rcases Nat.lt_or_ge i n with h | h
    · simp [h]
    · simp [h]
  exact ⟨fun i o _ hl => (by rw [h0] at hl; cases hl), fun j _ => h0 j⟩

end

theorem wp_region_pre {P : Program} {id : Nat} {Q : Exit → Act → World → Prop} {a : Act} {w : World} {l : List Oper} (N K m : Nat) (L : Array Bool) (hm : P.follows .mixedOrders = true) (hs : Region.noSelect l.toArray = true) (hT : tailB .any l.toArray K = true) (hP : preFrom .any l.toArray K K 0 (Array.replicate l.toArray.size false) = true) (hL : preEnd K 0 (Array.replicate l.toArray.size false) = L) (hsz : l.length = K + m)
    (h : wpQuiet P l.toArray (fun w' => ∃ d : Grown N w, w' = d.w) (fun a' => ∀ w', (∃ d : Grown N w, w' = d.w) → wpAny P .any l.toArray Q m L a' w') (l.take K) a) : (Code.region id l.toArray true).wp P Q a w := by
  refine wp_region_any hm ?_
  have hlen : (l.take K).length = K := by rw [List.length_take]; omega
  have := wpPre_lex (P := P) (md := .any) (ops := l.toArray) (C := fun w' => ∃ d : Grown N w, w' = d.w) (K := K) (Q := fun fuel listed a' => ∀ w', (∃ d : Grown N w, w' = d.w) → wpAny P .any l.toArray Q fuel listed a' w') m hs hT (l.take K) 0 (Array.replicate l.toArray.size false) a (by rw [hlen]; omega) (fun j hj => by
    rw [hlen] at hj
    rw [Nat.zero_add, List.getElem?_take_of_lt hj]
    simp) (shut_none _ _ _ _) (by rw [hlen]; exact hP) (by rw [hlen, hL]; exact h)
  rw [hlen] at this
  have e : l.toArray.size = K + m := by rw [List.size_toArray]; exact hsz
  have hfin := wpAny_of_pre (Q' := Q) (fun fuel listed a w' hw hq => hq w' hw) (K + m) (Array.replicate l.toArray.size false) a w.drew ⟨⟨w.drew, (Below.refl N w).drew⟩, rfl⟩ this
  rw [← e] at hfin
  exact hfin

end Gr
end Go.Proofs.Ytejfknkcakeakaa
