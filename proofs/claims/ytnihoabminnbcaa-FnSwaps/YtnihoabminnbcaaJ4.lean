/-
 Sv3, Sv4, Sv5.
-/
import Derived.Test.YtnihoabminnbcaaJ2
namespace Go.Proofs.Ytnihoabminnbcaa
namespace Sv
/-- Labels: of each node 0 none, 1 even, 2 odd; the link from the one ahead; the root. -/
structure Tp where
  label : List Nat
  ahead : List Lk
  root : List Nat
def lab (t : Tp) (x : Nat) : Nat := t.label.getD x 0
def ahd (t : Tp) (x : Nat) : Lk := t.ahead.getD x ⟨0, 0⟩
def rt (t : Tp) (x : Nat) : Nat := t.root.getD x 0
def par (N : List Nd) (t : Tp) (x : Nat) : Nat := top N (ahd t x).f
def nz (t : Tp) : Nat := t.label.countP (fun l => l != 0)
def isTop (N : List Nd) (x : Nat) : Prop := x < N.length ∧ (nd N x).gone = false ∧ upA N x < 0
/-- The labels are a forest over the free tops. -/
structure For (s : Nat) (N : List Nd) (M : List Lk) (t : Tp) (rk : Nat → Nat) : Prop where
  l1 : t.label.length = N.length
  l2 : t.ahead.length = N.length
  l3 : t.root.length = N.length
  two : ∀ x, lab t x ≤ 2
  tp : ∀ x, lab t x ≠ 0 → isTop N x
  odd : ∀ x, lab t x = 2 → (lab t (par N t x) = 1 ∧ rt t x = rt t (par N t x) ∧ rt t x ≠ x ∧ rk (par N t x) < rk x ∧ top N (ahd t x).t = x ∧ (ahd t x).f < s ∧ (ahd t x).t < s) ∧ ∃ m, mateOf N M x = some m ∧ lab t (top N m.t) = 1
  evn : ∀ x, lab t x = 1 → rt t x ≠ x → lab t (par N t x) = 2 ∧ rt t x = rt t (par N t x) ∧ rk (par N t x) < rk x ∧ mateOf N M (par N t x) = some (ahd t x) ∧ top N (ahd t x).t = x ∧ (ahd t x).f < s ∧ (ahd t x).t < s
  rot : ∀ x, lab t x = 1 → rt t x = x → mateOf N M x = none
  root : ∀ x, lab t x ≠ 0 → lab t (rt t x) = 1 ∧ rt t (rt t x) = rt t x
  fre : ∀ x, isTop N x → mateOf N M x = none → lab t x = 1
  rkb : ∀ x, lab t x ≠ 0 → rk x ≤ nz t
/-! ### The first labels -/
def label0 (N : List Nd) (M : List Lk) : Tp :=
  ⟨(List.range N.length).map fun i => if (nd N i).gone = false ∧ upA N i < 0 ∧ mateOf N M i = none then 1 else 0, (List.range N.length).map fun _ => ⟨0, 0⟩, (List.range N.length).map fun i => if (nd N i).gone = false ∧ upA N i < 0 ∧ mateOf N M i = none then i else 0⟩
theorem getD_map_range {α : Type} (f : Nat → α) (n i : Nat) (d : α) : ((List.range n).map f).getD i d = if i < n then f i else d := by
  by_cases h : i < n
  · rw [if_pos h, getD_at _ _ _ (by simpa using h)]; simp
  · rw [if_neg h]
    have : ((List.range n).map f).length ≤ i := by simp; omega
    simp [List.getElem?_eq_none this]
theorem lab0_iff {N : List Nd} {M : List Lk} (x : Nat) : (lab (label0 N M) x = 1 ∧ rt (label0 N M) x = x ∧ isTop N x ∧ mateOf N M x = none) ∨ (lab (label0 N M) x = 0 ∧ ¬ (isTop N x ∧ mateOf N M x = none)) := by
  unfold lab rt label0 isTop
  simp only [getD_map_range]
  by_cases h : x < N.length
  · rw [if_pos h, if_pos h]
    by_cases h2 : (nd N x).gone = false ∧ upA N x < 0 ∧ mateOf N M x = none
    · rw [if_pos h2, if_pos h2]; exact .inl ⟨rfl, rfl, ⟨h, h2.1, h2.2.1⟩, h2.2.2⟩
    · rw [if_neg h2]; exact .inr ⟨rfl, fun h3 => h2 ⟨h3.1.2.1, h3.1.2.2, h3.2⟩⟩
  · rw [if_neg h]; exact .inr ⟨rfl, fun h3 => h h3.1.1⟩
theorem for0 (s : Nat) (N : List Nd) (M : List Lk) : For s N M (label0 N M) (fun _ => 0) := by
  refine ⟨by simp [label0], by simp [label0], by simp [label0], fun x => ?_, fun x h => ?_, fun x h => ?_, fun x h h2 => ?_, fun x h h2 => ?_, fun x h => ?_, fun x h h2 => ?_, fun x h => Nat.zero_le _⟩
  all_goals rcases lab0_iff (N := N) (M := M) x with ⟨h3, h4, h5, h6⟩ | ⟨h3, h4⟩
  · omega
  · omega
  · exact h5
  · exact absurd h3 h
  · omega
  · omega
  · exact absurd h4 h2
  · omega
  · exact h6
  · omega
  · rw [h4]; exact ⟨h3, h4⟩
  · exact absurd h3 h
  · exact h3
  · exact absurd ⟨h, h2⟩ h4
/-! ### Two more labels -/
def put1 {α : Type} (l : List α) (i : Nat) (x : α) : List α := l.set i x
theorem getD_set {α : Type} (l : List α) (i k : Nat) (x d : α) (hi : i < l.length) : (l.set i x).getD k d = if k = i then x else l.getD k d := by
  by_cases h : k = i
  · subst h; simp [hi]
  · rw [if_neg h]; simp [Ne.symm h]
/-- From the even a to b, and to b's mate c. -/
def grow (t : Tp) (a b c : Nat) (link mate : Lk) : Tp := ⟨(t.label.set b 2).set c 1, (t.ahead.set b link).set c mate, (t.root.set b (rt t a)).set c (rt t a)⟩
section
variable {s : Nat} {N : List Nd} {M : List Lk} {t : Tp} {rk : Nat → Nat} {a b c : Nat} {link mate : Lk}
theorem lab_grow (F : For s N M t rk) (hb : b < N.length) (hc : c < N.length) (x : Nat) : lab (grow t a b c link mate) x = if x = c then 1 else if x = b then 2 else lab t x := by
  unfold lab grow
  rw [getD_set _ _ _ _ _ (by rw [List.length_set, F.l1]; exact hc), getD_set _ _ _ _ _ (by rw [F.l1]; exact hb)]
theorem ahd_grow (F : For s N M t rk) (hb : b < N.length) (hc : c < N.length) (x : Nat) : ahd (grow t a b c link mate) x = if x = c then mate else if x = b then link else ahd t x := by
  unfold ahd grow
  rw [getD_set _ _ _ _ _ (by rw [List.length_set, F.l2]; exact hc), getD_set _ _ _ _ _ (by rw [F.l2]; exact hb)]
theorem rt_grow (F : For s N M t rk) (hb : b < N.length) (hc : c < N.length) (x : Nat) : rt (grow t a b c link mate) x = if x = c then rt t a else if x = b then rt t a else rt t x := by
  unfold rt grow
  rw [getD_set _ _ _ _ _ (by rw [List.length_set, F.l3]; exact hc), getD_set _ _ _ _ _ (by rw [F.l3]; exact hb)]
  rfl
theorem nz_grow (F : For s N M t rk) (hb : b < N.length) (hc : c < N.length) (hbc : b ≠ c) (lb : lab t b = 0) (lc : lab t c = 0) : nz (grow t a b c link mate) = nz t + 2 := by
  have hb1 : b < t.label.length := by rw [F.l1]; exact hb
  have hc1 : c < (t.label.set b 2).length := by rw [List.length_set, F.l1]; exact hc
  have e1 : t.label[b] = 0 := by have := lb; unfold lab at this; rwa [getD_at _ _ _ hb1] at this
  have e2 : (t.label.set b 2)[c] = 0 := by
    have := lc
    unfold lab at this
    rw [getD_at _ _ _ (by rw [F.l1]; exact hc)] at this
    rw [List.getElem_set_ne hbc]; exact this
  unfold nz grow
  simp only
  rw [List.countP_set hc1, List.countP_set hb1, e1, e2]
  simp
/-- The mate of what has no label has none either. -/
theorem mate_bare (I : Inv s N M) (F : For s N M t rk) (lb : lab t b = 0) (hm : mateOf N M b = some mate) : lab t (top N mate.t) = 0 := by
  have hf := mate_flip I.mat hm
  obtain ⟨e1, _⟩ := mate_some hm
  have h2 := F.two (top N mate.t)
  rcases Nat.lt_or_ge (lab t (top N mate.t)) 1 with h | h
  · omega
  · exfalso
    by_cases h1 : lab t (top N mate.t) = 1
    · by_cases hr : rt t (top N mate.t) = top N mate.t
      · have := F.rot _ h1 hr
        rw [this] at hf; cases hf
      · obtain ⟨g1, _, _, g4, g5, _⟩ := F.evn _ h1 hr
        have g6 := mate_flip I.mat g4
        rw [g5, hf] at g6
        have g7 : mate = ahd t (top N mate.t) := congrArg Lk.flip (Option.some.inj g6)
        have g8 : par N t (top N mate.t) = b := by unfold par; rw [← g7]; exact e1
        rw [g8, lb] at g1; cases g1
    · obtain ⟨_, m', g1, g2⟩ := F.odd _ (show lab t (top N mate.t) = 2 by omega)
      rw [hf] at g1
      obtain rfl := Option.some.inj g1
      have : top N mate.flip.t = b := e1
      rw [this, lb] at g2; cases g2
theorem grow_for (I : Inv s N M) (F : For s N M t rk) (la : lab t a = 1) (lb : lab t b = 0) (hb : isTop N b) (hl1 : top N link.f = a) (hl2 : top N link.t = b) (hf : link.f < s) (ht : link.t < s) (hm : mateOf N M b = some mate) (hc : c = top N mate.t) :
    For s N M (grow t a b c link mate) (fun x => if x = c then rk a + 2 else if x = b then rk a + 1 else rk x) ∧ nz (grow t a b c link mate) = nz t + 2 ∧ c < N.length := by
  have lc : lab t c = 0 := by rw [hc]; exact mate_bare I F lb hm
  have hcb : c ≠ b := by rw [hc]; exact mate_ne I.mat hm
  obtain ⟨e1, hmm⟩ := mate_some hm
  have hmt : mate.t < s ∧ mate.f < s := by
    constructor
    · exact I.fin _ (mem_ends.2 (hmm.elim (fun h => ⟨_, h, .inr rfl⟩) (fun h => ⟨_, h, .inl rfl⟩)))
    · exact I.fin _ (mem_ends.2 (hmm.elim (fun h => ⟨_, h, .inl rfl⟩) (fun h => ⟨_, h, .inr rfl⟩)))
  have hge := I.ge
  have hct : isTop N c := by
    rw [hc]
    have h1 := top_spec I.ups mate.t (by omega)
    exact ⟨h1.1, I.alive _ (by omega) (I.ver _ hmt.1), h1.2.1⟩
  have hac : a ≠ c := fun e => by rw [e, lc] at la; cases la
  have hab : a ≠ b := fun e => by rw [e, lb] at la; cases la
  have L := lab_grow (a := a) (link := link) (mate := mate) F hb.1 hct.1
  have A := ahd_grow (a := a) (link := link) (mate := mate) F hb.1 hct.1
  have T := rt_grow (a := a) (link := link) (mate := mate) F hb.1 hct.1
  have Z := nz_grow (a := a) (link := link) (mate := mate) F hb.1 hct.1 (Ne.symm hcb) lb lc
  have old : ∀ x, lab t x ≠ 0 → x ≠ c ∧ x ≠ b := fun x hx => ⟨fun e => hx (by rw [e]; exact lc), fun e => hx (by rw [e]; exact lb)⟩
  have Lo : ∀ x, lab t x ≠ 0 → lab (grow t a b c link mate) x = lab t x := fun x hx => by rw [L, if_neg (old x hx).1, if_neg (old x hx).2]
  have To : ∀ x, lab t x ≠ 0 → rt (grow t a b c link mate) x = rt t x := fun x hx => by rw [T, if_neg (old x hx).1, if_neg (old x hx).2]
  have Po : ∀ x, x ≠ c → x ≠ b → par N (grow t a b c link mate) x = par N t x := fun x h1 h2 => by unfold par; rw [A, if_neg h1, if_neg h2]
  have pb : par N (grow t a b c link mate) b = a := by unfold par; rw [A, if_neg (Ne.symm hcb), if_pos rfl]; exact hl1
  have pc : par N (grow t a b c link mate) c = b := by unfold par; rw [A, if_pos rfl]; exact e1
  have la0 : lab t a ≠ 0 := by omega
  have Ra := F.root a la0
  have Rn : lab t (rt t a) ≠ 0 := by rw [Ra.1]; decide
  refine ⟨⟨?_, ?_, ?_, ?_, ?_, ?_, ?_, ?_, ?_, ?_, ?_⟩, Z, hct.1⟩
  · simp [grow, F.l1]
  · simp [grow, F.l2]
  · simp [grow, F.l3]
  · intro x
    rw [L]
    split
    · omega
    · split
      · omega
      · exact F.two x
  · intro x hx
    rw [L] at hx
    by_cases h1 : x = c
    · rw [h1]; exact hct
    · by_cases h2 : x = b
      · rw [h2]; exact hb
      · rw [if_neg h1, if_neg h2] at hx; exact F.tp x hx
  · intro x hx
    rw [L] at hx
    by_cases h1 : x = c
    · rw [if_pos h1] at hx; cases hx
    · by_cases h2 : x = b
      · subst h2
        rw [pb]
        refine ⟨⟨by rw [Lo a la0]; exact la, by rw [T, if_neg h1, if_pos rfl, To a la0], ?_, ?_, ?_, ?_, ?_⟩, mate, hm, ?_⟩
        · rw [T, if_neg h1, if_pos rfl]
          exact fun e => by rw [e, lb] at Rn; exact Rn rfl
        · rw [if_neg hac, if_neg hab, if_neg h1, if_pos rfl]; omega
        · rw [A, if_neg h1, if_pos rfl]; exact hl2
        · rw [A, if_neg h1, if_pos rfl]; exact hf
        · rw [A, if_neg h1, if_pos rfl]; exact ht
        · rw [L, if_pos hc.symm]
      · rw [if_neg h1, if_neg h2] at hx
        obtain ⟨⟨g1, g2, g3, g4, g5, g6, g7⟩, m, g8, g9⟩ := F.odd x hx
        have hp : lab t (par N t x) ≠ 0 := by omega
        have hx0 : lab t x ≠ 0 := by omega
        rw [Po x h1 h2]
        refine ⟨⟨by rw [Lo _ hp]; exact g1, by rw [To x hx0, To _ hp]; exact g2, by rw [To x hx0]; exact g3, ?_, ?_, ?_, ?_⟩, m, g8, by rw [Lo _ (by omega)]; exact g9⟩
        · rw [if_neg (old _ hp).1, if_neg (old _ hp).2, if_neg h1, if_neg h2]; exact g4
        · rw [A, if_neg h1, if_neg h2]; exact g5
        · rw [A, if_neg h1, if_neg h2]; exact g6
        · rw [A, if_neg h1, if_neg h2]; exact g7
  · intro x hx hr
    rw [L] at hx
    by_cases h1 : x = c
    · subst h1
      rw [pc]
      refine ⟨by rw [L, if_neg (Ne.symm hcb), if_pos rfl], by rw [T, if_pos rfl, T, if_neg (Ne.symm hcb), if_pos rfl], ?_, ?_, ?_, ?_, ?_⟩
      · rw [if_neg (Ne.symm hcb), if_pos rfl, if_pos rfl]; omega
      · rw [A, if_pos rfl]; exact hm
      · rw [A, if_pos rfl]; exact hc.symm
      · rw [A, if_pos rfl]; exact hmt.2
      · rw [A, if_pos rfl]; exact hmt.1
    · by_cases h2 : x = b
      · rw [if_neg h1, if_pos h2] at hx; cases hx
      · rw [if_neg h1, if_neg h2] at hx
        have hx0 : lab t x ≠ 0 := by omega
        rw [To x hx0] at hr
        obtain ⟨g1, g2, g3, g4, g5, g6, g7⟩ := F.evn x hx hr
        have hp : lab t (par N t x) ≠ 0 := by omega
        rw [Po x h1 h2]
        refine ⟨by rw [Lo _ hp]; exact g1, by rw [To x hx0, To _ hp]; exact g2, ?_, ?_, ?_, ?_, ?_⟩
        · rw [if_neg (old _ hp).1, if_neg (old _ hp).2, if_neg h1, if_neg h2]; exact g3
        · rw [A, if_neg h1, if_neg h2]; exact g4
        · rw [A, if_neg h1, if_neg h2]; exact g5
        · rw [A, if_neg h1, if_neg h2]; exact g6
        · rw [A, if_neg h1, if_neg h2]; exact g7
  · intro x hx hr
    rw [L] at hx
    by_cases h1 : x = c
    · subst h1
      rw [T, if_pos rfl] at hr
      exact absurd (by rw [hr]; exact lc) Rn
    · by_cases h2 : x = b
      · rw [if_neg h1, if_pos h2] at hx; cases hx
      · rw [if_neg h1, if_neg h2] at hx
        rw [To x (by omega)] at hr
        exact F.rot x hx hr
  · intro x hx
    rw [L] at hx
    have key : lab (grow t a b c link mate) (rt t a) = 1 ∧ rt (grow t a b c link mate) (rt t a) = rt t a := ⟨by rw [Lo _ Rn]; exact Ra.1, by rw [To _ Rn]; exact Ra.2⟩
    by_cases h1 : x = c
    · rw [T, if_pos h1]; exact key
    · by_cases h2 : x = b
      · rw [T, if_neg h1, if_pos h2]; exact key
      · rw [if_neg h1, if_neg h2] at hx
        have R := F.root x hx
        have Rx : lab t (rt t x) ≠ 0 := by rw [R.1]; decide
        rw [To x hx, Lo _ Rx, To _ Rx]; exact R
  · intro x hx h2
    have := F.fre x hx h2
    rw [Lo x (by omega)]; exact this
  · intro x hx
    rw [Z]
    have ra := F.rkb a la0
    rw [L] at hx
    by_cases h1 : x = c
    · rw [if_pos h1]; omega
    · by_cases h2 : x = b
      · rw [if_neg h1, if_pos h2]; omega
      · rw [if_neg h1, if_neg h2] at hx ⊢
        have := F.rkb x hx
        omega
end
/-! ### Ways -/
def wayF (N : List Nd) (t : Tp) : Nat → Nat → List Nat
  | 0, x => [x]
  | k + 1, x => if rt t x = x then [x] else x :: wayF N t k (par N t x)
/-- A way from x to its root. -/
structure IsWay (N : List Nd) (t : Tp) (rk : Nat → Nat) (x : Nat) (W : List Nat) : Prop where
  pos : 0 < W.length
  hd : W[0] = x
  lst : W[W.length - 1] = rt t x
  st : ∀ i (h : i + 1 < W.length), W[i + 1] = par N t W[i] ∧ rt t W[i] ≠ W[i] ∧ rk W[i + 1] < rk W[i]
  lb : ∀ i (h : i < W.length), lab t W[i] = if i % 2 = 0 then lab t x else 3 - lab t x
  rts : ∀ i (h : i < W.length), rt t W[i] = rt t x
theorem way_is {s : Nat} {N : List Nd} {M : List Lk} {t : Tp} {rk : Nat → Nat} (F : For s N M t rk) : ∀ (k x : Nat), lab t x ≠ 0 → rk x ≤ k → IsWay N t rk x (wayF N t k x) := by
  have one : ∀ x, lab t x ≠ 0 → rt t x = x → IsWay N t rk x [x] := fun x hx hr => ⟨by simp, rfl, by simp [hr], fun i h => by simp at h, fun i h => by simp at h; subst h; simp, fun i h => by simp⟩
  intro k
  induction k with
  | zero =>
    intro x hx hk
    refine one x hx ?_
    by_cases hr : rt t x = x
    · exact hr
    · exfalso
      have h2 := F.two x
      by_cases h1 : lab t x = 1
      · have := (F.evn x h1 hr).2.2.1; omega
      · have := (F.odd x (by omega)).1.2.2.2.1; omega
  | succ k ih =>
    intro x hx hk
    rw [wayF]
    by_cases hr : rt t x = x
    · rw [if_pos hr]; exact one x hx hr
    · rw [if_neg hr]
      have hp : lab t (par N t x) = 3 - lab t x ∧ rt t x = rt t (par N t x) ∧ rk (par N t x) < rk x := by
        have h2 := F.two x
        by_cases h1 : lab t x = 1
        · obtain ⟨g1, g2, g3, _⟩ := F.evn x h1 hr
          exact ⟨by omega, g2, g3⟩
        · obtain ⟨⟨g1, g2, _, g4, _⟩, _⟩ := F.odd x (by omega)
          exact ⟨by omega, g2, g4⟩
      have h2 := F.two x
      have W := ih (par N t x) (by omega) (by omega)
      generalize wayF N t k (par N t x) = L at W
      refine ⟨by simp, rfl, ?_, ?_, ?_, ?_⟩
      · have h3 := W.lst
        have h4 := W.pos
        rw [hp.2.1, ← h3]
        simp only [List.length_cons, Nat.add_sub_cancel]
        rw [List.getElem_cons]
        rw [dif_neg (by omega)]
      · intro i hi
        cases i with
        | zero =>
          have h5 : L[0]'W.pos = par N t x := W.hd
          refine ⟨?_, hr, ?_⟩
          · show L[0]'W.pos = _; exact h5
          · show rk (L[0]'W.pos) < rk x
            rw [h5]; exact hp.2.2
        | succ i =>
          have := W.st i (by simpa using hi)
          exact this
      · intro i hi
        cases i with
        | zero => simp
        | succ i =>
          have hiL : i < L.length := by simpa using hi
          have h5 := W.lb i hiL
          show lab t L[i] = _
          rw [h5, hp.1]
          by_cases h6 : i % 2 = 0
          · rw [if_pos h6, if_neg (by omega)]
          · rw [if_neg h6, if_pos (by omega)]; omega
      · intro i hi
        cases i with
        | zero => rfl
        | succ i =>
          have hiL : i < L.length := by simpa using hi
          have h5 := W.rts i hiL
          show rt t L[i] = _
          rw [h5, hp.2.1]
theorem IsWay.rank {N : List Nd} {t : Tp} {rk : Nat → Nat} {x : Nat} {W : List Nat} (h : IsWay N t rk x W) : ∀ i j (hij : i < j) (hj : j < W.length), rk W[j] < rk (W[i]'(by omega)) := by
  intro i j hij hj
  induction j with
  | zero => omega
  | succ j ih =>
    have h1 := (h.st j hj).2.2
    by_cases e : i = j
    · subst e; exact h1
    · exact Nat.lt_trans h1 (ih (by omega) (by omega))
theorem IsWay.nodup {N : List Nd} {t : Tp} {rk : Nat → Nat} {x : Nat} {W : List Nat} (h : IsWay N t rk x W) : W.Nodup := by
  rw [List.nodup_iff_pairwise_ne, List.pairwise_iff_getElem]
  intro i j hi hj hij e
  have := h.rank i j hij hj
  rw [e] at this
  omega
def ringOf (A B : List Nat) (i k : Nat) : List Nat := (A.take (i + 1)).reverse ++ B.take k
def linksOf (t : Tp) (e : Lk) (A B : List Nat) (i k : Nat) : List Lk := ((A.take i).reverse.map (ahd t)) ++ (e :: (B.take k).map fun x => (ahd t x).flip)
def keepM (N : List Nd) (L : List Nat) (M : List Lk) : List Lk := M.filter fun x => !(decide (top N x.f ∈ L) && decide (top N x.t ∈ L))
def newRing (N : List Nd) (M : List Lk) (t : Tp) (e : Lk) (A B : List Nat) (i k : Nat) (x : Nat) : Nd := ⟨ringOf A B i k, linksOf t e A B i k, baseOf N M x, 0, -1, false⟩
theorem ring_length {A B : List Nat} {i k : Nat} (hi : i < A.length) (hk : k < B.length) : (ringOf A B i k).length = i + 1 + k := by
  unfold ringOf; simp; omega
theorem links_length {t : Tp} {e : Lk} {A B : List Nat} {i k : Nat} (hi : i < A.length) (hk : k < B.length) : (linksOf t e A B i k).length = i + 1 + k := by
  unfold linksOf; simp; omega
theorem ring_at' {A B : List Nat} {i k : Nat} (hi : i < A.length) (hk : k < B.length) (p : Nat) (hp : p < ((A.take (i + 1)).reverse ++ B.take k).length) (hq : p < i + 1 + k) :
    (∀ h : p ≤ i, ((A.take (i + 1)).reverse ++ B.take k)[p] = A[i - p]) ∧ (∀ h : i < p, ((A.take (i + 1)).reverse ++ B.take k)[p] = B[p - i - 1]'(by omega)) := by
  constructor
  · intro h
    rw [List.getElem_append_left (by simp; omega), List.getElem_reverse, List.getElem_take]
    congr 1
    simp
    omega
  · intro h
    rw [List.getElem_append_right (by simp; omega), List.getElem_take]
    congr 1
    simp
    omega
theorem ring_at {A B : List Nat} {i k : Nat} (hi : i < A.length) (hk : k < B.length) (p : Nat) (hp : p < (ringOf A B i k).length) :
    (∀ h : p ≤ i, (ringOf A B i k)[p] = A[i - p]) ∧ (∀ h : i < p, (ringOf A B i k)[p] = B[p - i - 1]'(by rw [ring_length hi hk] at hp; omega)) :=
  ring_at' hi hk p hp (by rw [ring_length hi hk] at hp; exact hp)
theorem links_at' {t : Tp} {e : Lk} {A B : List Nat} {i k : Nat} (hi : i < A.length) (hk : k < B.length) (p : Nat) (hp : p < (((A.take i).reverse.map (ahd t)) ++ (e :: (B.take k).map fun x => (ahd t x).flip)).length) (hq : p < i + 1 + k) :
    (∀ h : p < i, (((A.take i).reverse.map (ahd t)) ++ (e :: (B.take k).map fun x => (ahd t x).flip))[p] = ahd t A[i - 1 - p]) ∧ (p = i → (((A.take i).reverse.map (ahd t)) ++ (e :: (B.take k).map fun x => (ahd t x).flip))[p] = e) ∧ (∀ h : i < p, (((A.take i).reverse.map (ahd t)) ++ (e :: (B.take k).map fun x => (ahd t x).flip))[p] = (ahd t (B[p - i - 1]'(by omega))).flip) := by
  refine ⟨?_, ?_, ?_⟩
  · intro h
    rw [List.getElem_append_left (by simp; omega), List.getElem_map, List.getElem_reverse, List.getElem_take]
    congr 2
    simp
    omega
  · intro h
    subst h
    rw [List.getElem_append_right (by simp; omega)]
    have : p - ((A.take p).reverse.map (ahd t)).length = 0 := by simp; omega
    simp only [this, List.getElem_cons_zero]
  · intro h
    rw [List.getElem_append_right (by simp; omega), List.getElem_cons, dif_neg (by simp; omega), List.getElem_map, List.getElem_take]
    congr 3
    simp
    omega
theorem links_at {t : Tp} {e : Lk} {A B : List Nat} {i k : Nat} (hi : i < A.length) (hk : k < B.length) (p : Nat) (hp : p < (linksOf t e A B i k).length) :
    (∀ h : p < i, (linksOf t e A B i k)[p] = ahd t A[i - 1 - p]) ∧ (p = i → (linksOf t e A B i k)[p] = e) ∧ (∀ h : i < p, (linksOf t e A B i k)[p] = (ahd t (B[p - i - 1]'(by rw [links_length hi hk] at hp; omega))).flip) :=
  links_at' hi hk p hp (by rw [links_length hi hk] at hp; exact hp)
theorem mem_take_iff {l : List Nat} {n x : Nat} : x ∈ l.take n ↔ ∃ j, ∃ h : j < l.length, j < n ∧ l[j] = x := by
  constructor
  · intro h
    obtain ⟨j, hj, e⟩ := List.getElem_of_mem h
    rw [List.length_take] at hj
    exact ⟨j, by omega, by omega, by rw [← e, List.getElem_take]⟩
  · rintro ⟨j, hj, hn, e⟩
    rw [← e]
    have h1 : j < (l.take n).length := by rw [List.length_take]; omega
    have := List.getElem_mem h1
    rwa [List.getElem_take] at this
theorem tops_keep {N : List Nd} (p : Lk → Bool) : ∀ (M : List Lk), (tops N M).Nodup → (tops N (M.filter p)).Nodup ∧ ∀ x ∈ tops N (M.filter p), x ∈ tops N M
  | [], _ => by simp [tops, ends]
  | y :: r, h => by
    have e : tops N (y :: r) = top N y.f :: top N y.t :: tops N r := rfl
    rw [e, List.nodup_cons, List.nodup_cons] at h
    obtain ⟨i1, i2⟩ := tops_keep p r h.2.2
    rw [List.filter_cons]
    split
    · have e2 : tops N (y :: r.filter p) = top N y.f :: top N y.t :: tops N (r.filter p) := rfl
      rw [e2, e]
      refine ⟨?_, ?_⟩
      · rw [List.nodup_cons, List.nodup_cons]
        refine ⟨fun hm => h.1 ?_, fun hm => h.2.1 (i2 _ hm), i1⟩
        rcases List.mem_cons.1 hm with hm | hm
        · rw [hm]; simp
        · exact List.mem_cons_of_mem _ (i2 _ hm)
      · intro x hx
        rcases List.mem_cons.1 hx with rfl | hx
        · simp
        · rcases List.mem_cons.1 hx with rfl | hx
          · simp
          · exact List.mem_cons_of_mem _ (List.mem_cons_of_mem _ (i2 x hx))
    · refine ⟨i1, fun x hx => ?_⟩
      rw [e]
      exact List.mem_cons_of_mem _ (List.mem_cons_of_mem _ (i2 x hx))
section
variable {s : Nat} {N : List Nd} {M : List Lk} {t : Tp} {rk : Nat → Nat} {a0 b0 i k : Nat} {A B : List Nat} {e : Lk}
/-- Along a way: the mate of an even one is the next, that of an odd one the one before. -/
theorem way_mates (I : Inv s N M) (F : For s N M t rk) (hA : IsWay N t rk a0 A) (la : lab t a0 = 1) (j : Nat) (hj : j + 1 < A.length) :
    (j % 2 = 0 → ∃ m, mateOf N M A[j] = some m ∧ top N m.t = A[j + 1]) ∧ (j % 2 = 0 → ∃ m, mateOf N M A[j + 1] = some m ∧ top N m.t = A[j]) := by
  have key : j % 2 = 0 → mateOf N M A[j + 1] = some (ahd t A[j]) ∧ top N (ahd t A[j]).t = A[j] ∧ top N (ahd t A[j]).f = A[j + 1] := fun h => by
    have h1 : lab t A[j] = 1 := by rw [hA.lb j (by omega), if_pos h, la]
    obtain ⟨h2, h3, _⟩ := hA.st j hj
    obtain ⟨_, _, _, g4, g5, _⟩ := F.evn _ h1 h3
    rw [← h2] at g4
    exact ⟨g4, g5, h2.symm⟩
  constructor
  · intro h
    obtain ⟨g1, g2, g3⟩ := key h
    have := mate_flip I.mat g1
    rw [g2] at this
    exact ⟨_, this, g3⟩
  · intro h
    obtain ⟨g1, g2, g3⟩ := key h
    exact ⟨_, g1, g2⟩
theorem way_top (F : For s N M t rk) (hA : IsWay N t rk a0 A) (la : lab t a0 = 1) (j : Nat) (hj : j < A.length) : isTop N A[j] := by
  refine F.tp _ ?_
  rw [hA.lb j hj, la]
  split <;> decide
/-- A link of a way goes from the next one to this one. -/
theorem way_link (F : For s N M t rk) (hA : IsWay N t rk a0 A) (la : lab t a0 = 1) (j : Nat) (hj : j + 1 < A.length) : top N (ahd t A[j]).f = A[j + 1] ∧ top N (ahd t A[j]).t = A[j] ∧ (ahd t A[j]).f < s ∧ (ahd t A[j]).t < s := by
  obtain ⟨h2, h3, _⟩ := hA.st j hj
  have hl := hA.lb j (by omega)
  rw [la] at hl
  by_cases h : j % 2 = 0
  · rw [if_pos h] at hl
    obtain ⟨_, _, _, _, g5, g6, g7⟩ := F.evn _ hl h3
    exact ⟨h2.symm, g5, g6, g7⟩
  · rw [if_neg h] at hl
    obtain ⟨⟨_, _, _, _, g5, g6, g7⟩, _⟩ := F.odd _ hl
    exact ⟨h2.symm, g5, g6, g7⟩
/-- Where two ways meet first, both are even. -/
theorem meet_even (I : Inv s N M) (F : For s N M t rk) (hA : IsWay N t rk a0 A) (hB : IsWay N t rk b0 B) (la : lab t a0 = 1) (lb : lab t b0 = 1) (hi : i < A.length) (hk : k < B.length) (hm : A[i] = B[k]) (hf : ∀ j (h : j < i), A[j] ∉ B) : i % 2 = 0 ∧ k % 2 = 0 := by
  have h1 := hA.lb i hi
  have h2 := hB.lb k hk
  rw [la] at h1
  rw [lb] at h2
  rw [hm, h2] at h1
  by_cases hie : i % 2 = 0
  · rw [if_pos hie] at h1
    by_cases hke : k % 2 = 0
    · exact ⟨hie, hke⟩
    · rw [if_neg hke] at h1; omega
  · exfalso
    rw [if_neg hie] at h1
    have hke : k % 2 ≠ 0 := fun h => by rw [if_pos h] at h1; omega
    obtain ⟨i', rfl⟩ : ∃ i', i = i' + 1 := ⟨i - 1, by omega⟩
    obtain ⟨k', rfl⟩ : ∃ k', k = k' + 1 := ⟨k - 1, by omega⟩
    obtain ⟨m1, p1, p2⟩ := (way_mates I F hA la i' hi).2 (by omega)
    obtain ⟨m2, q1, q2⟩ := (way_mates I F hB lb k' hk).2 (by omega)
    rw [hm, q1] at p1
    obtain rfl := Option.some.inj p1
    exact hf i' (by omega) (by rw [← p2, q2]; exact List.getElem_mem _)
/-- In the ring, but for the place where the ways meet, the mate is in the ring. -/
theorem ring_mates (I : Inv s N M) (F : For s N M t rk) (hA : IsWay N t rk a0 A) (hB : IsWay N t rk b0 B) (la : lab t a0 = 1) (lb : lab t b0 = 1) (hi : i < A.length) (hk : k < B.length) (hm : A[i] = B[k]) (hie : i % 2 = 0) (hke : k % 2 = 0) (x : Nat) (hx : x ∈ ringOf A B i k) (hne : x ≠ A[i]) {m : Lk} (hmm : mateOf N M x = some m) : top N m.t ∈ ringOf A B i k := by
  have inA : ∀ j (h : j < A.length), j ≤ i → A[j] ∈ ringOf A B i k := fun j h hj => by
    unfold ringOf
    rw [List.mem_append, List.mem_reverse]
    exact .inl (mem_take_iff.2 ⟨j, h, by omega, rfl⟩)
  have inB : ∀ j (h : j < B.length), j < k → B[j] ∈ ringOf A B i k := fun j h hj => by
    unfold ringOf
    rw [List.mem_append]
    exact .inr (mem_take_iff.2 ⟨j, h, hj, rfl⟩)
  unfold ringOf at hx
  rw [List.mem_append, List.mem_reverse] at hx
  rcases hx with hx | hx
  · obtain ⟨j, hj, hji, rfl⟩ := mem_take_iff.1 hx
    have hjl : j < i := by
      rcases Nat.lt_or_ge j i with h | h
      · exact h
      · have : j = i := by omega
        subst this
        exact absurd rfl hne
    by_cases h : j % 2 = 0
    · obtain ⟨m', p1, p2⟩ := (way_mates I F hA la j (by omega)).1 h
      rw [hmm] at p1
      obtain rfl := Option.some.inj p1
      rw [p2]; exact inA _ _ (by omega)
    · obtain ⟨j', rfl⟩ : ∃ j', j = j' + 1 := ⟨j - 1, by omega⟩
      obtain ⟨m', p1, p2⟩ := (way_mates I F hA la j' (by omega)).2 (by omega)
      rw [hmm] at p1
      obtain rfl := Option.some.inj p1
      rw [p2]; exact inA _ _ (by omega)
  · obtain ⟨j, hj, hjk, rfl⟩ := mem_take_iff.1 hx
    by_cases h : j % 2 = 0
    · obtain ⟨m', p1, p2⟩ := (way_mates I F hB lb j (by omega)).1 h
      rw [hmm] at p1
      obtain rfl := Option.some.inj p1
      rw [p2]
      by_cases h2 : j + 1 < k
      · exact inB _ _ h2
      · have h3 : j + 1 = k := by omega
        subst h3
        rw [← hm]; exact inA i hi (Nat.le_refl _)
    · obtain ⟨j', rfl⟩ : ∃ j', j = j' + 1 := ⟨j - 1, by omega⟩
      obtain ⟨m', p1, p2⟩ := (way_mates I F hB lb j' (by omega)).2 (by omega)
      rw [hmm] at p1
      obtain rfl := Option.some.inj p1
      rw [p2]; exact inB _ _ (by omega)
theorem shrink_inv (I : Inv s N M) (F : For s N M t rk) (hA : IsWay N t rk a0 A) (hB : IsWay N t rk b0 B) (la : lab t a0 = 1) (lb : lab t b0 = 1) (hi : i < A.length) (hk : k < B.length) (hm : A[i] = B[k]) (hf : ∀ j (h : j < i), A[j] ∉ B) (he1 : top N e.f = a0) (he2 : top N e.t = b0) (hef : e.f < s) (het : e.t < s) :
    Inv s (shrinkN N (ringOf A B i k) (newRing N M t e A B i k A[i])) (keepM N (ringOf A B i k) M) := by
  obtain ⟨hie, hke⟩ := meet_even I F hA hB la lb hi hk hm hf
  have hRM := ring_mates I F hA hB la lb hi hk hm hie hke
  have hnd : (ringOf A B i k).Nodup := by
    unfold ringOf
    rw [List.nodup_append]
    refine ⟨(List.reverse_perm _).nodup_iff.2 (hA.nodup.sublist (List.take_sublist _ _)), hB.nodup.sublist (List.take_sublist _ _), ?_⟩
    intro x hx y hy e
    subst e
    rw [List.mem_reverse] at hx
    obtain ⟨j, hj, hji, rfl⟩ := mem_take_iff.1 hx
    obtain ⟨l, hl, hlk, e⟩ := mem_take_iff.1 hy
    by_cases h : j < i
    · exact hf j h (by rw [← e]; exact List.getElem_mem _)
    · have : j = i := by omega
      subst this
      rw [hm] at e
      have := getElem_inj_of_nodup hB.nodup hl hk e
      omega
  have hall : ∀ x ∈ ringOf A B i k, isTop N x := by
    intro x hx
    unfold ringOf at hx
    rw [List.mem_append, List.mem_reverse] at hx
    rcases hx with hx | hx
    · obtain ⟨j, hj, _, rfl⟩ := mem_take_iff.1 hx
      exact way_top F hA la j hj
    · obtain ⟨j, hj, _, rfl⟩ := mem_take_iff.1 hx
      exact way_top F hB lb j hj
  have hll := links_length (t := t) (e := e) hi hk
  have hrl := ring_length hi hk
  have hLK : ∀ p (h0 : p < (linksOf t e A B i k).length) (h1 : p < (ringOf A B i k).length) (h2 : (p + 1) % (ringOf A B i k).length < (ringOf A B i k).length), top N (linksOf t e A B i k)[p].f = (ringOf A B i k)[p] ∧ top N (linksOf t e A B i k)[p].t = (ringOf A B i k)[(p + 1) % (ringOf A B i k).length] ∧ (linksOf t e A B i k)[p].f < s ∧ (linksOf t e A B i k)[p].t < s := by
    intro p h0 h1 h2
    obtain ⟨r1, r2⟩ := ring_at hi hk p h1
    obtain ⟨q1, q2⟩ := ring_at hi hk _ h2
    obtain ⟨w1, w2, w3⟩ := links_at (t := t) (e := e) hi hk p h0
    have hmod : p + 1 < i + 1 + k → (p + 1) % (ringOf A B i k).length = p + 1 := fun h => by rw [hrl]; exact Nat.mod_eq_of_lt h
    have hmod0 : p + 1 = i + 1 + k → (p + 1) % (ringOf A B i k).length = 0 := fun h => by rw [hrl, h]; exact Nat.mod_self _
    have A0 : A[0]'(by omega) = a0 := hA.hd
    have B0 : B[0]'(by omega) = b0 := hB.hd
    rcases Nat.lt_trichotomy p i with h | h | h
    · obtain ⟨l1, l2, l3, l4⟩ := way_link F hA la (i - 1 - p) (by omega)
      rw [w1 h, r1 (by omega), q1 (by rw [hmod (by omega)]; omega)]
      refine ⟨?_, ?_, l3, l4⟩
      · rw [l1]; congr 1; omega
      · rw [l2]; congr 1; rw [hmod (by omega)]; omega
    · subst h
      rw [w2 rfl, r1 (Nat.le_refl _)]
      refine ⟨?_, ?_, hef, het⟩
      · rw [he1, ← A0]; congr 1; omega
      · rw [he2]
        by_cases hk0 : k = 0
        · subst hk0
          rw [q1 (by rw [hmod0 (by omega)]; omega)]
          rw [← B0, ← hm]
          congr 1
          rw [hmod0 (by omega)]; omega
        · rw [q2 (by rw [hmod (by omega)]; omega), ← B0]
          congr 1
          rw [hmod (by omega)]; omega
    · obtain ⟨l1, l2, l3, l4⟩ := way_link F hB lb (p - i - 1) (by omega)
      rw [w3 h, r2 h]
      refine ⟨l2, ?_, l4, l3⟩
      show top N (ahd t B[p - i - 1]).f = _
      rw [l1]
      by_cases hlast : p + 1 = i + 1 + k
      · rw [q1 (by rw [hmod0 hlast]; omega)]
        have e1 : p - i - 1 + 1 = k := by omega
        have e2 : i - (p + 1) % (ringOf A B i k).length = i := by rw [hmod0 hlast]; omega
        simp only [e1, e2]
        exact hm.symm
      · rw [q2 (by rw [hmod (by omega)]; omega)]
        congr 1
        rw [hmod (by omega)]; omega
  generalize hrg : ringOf A B i k = rg at *
  generalize hlk : linksOf t e A B i k = lks at *
  have hx0 : (newRing N M t e A B i k A[i]).up = -1 := rfl
  have hxr : (newRing N M t e A B i k A[i]).ring = rg := hrg
  have hxl : (newRing N M t e A B i k A[i]).links = lks := hlk
  have hxg : (newRing N M t e A B i k A[i]).gone = false := rfl
  have hxb : (newRing N M t e A B i k A[i]).base < s := by
    show baseOf N M A[i] < s
    unfold baseOf
    cases hmo : mateOf N M A[i] with
    | none => exact I.bas _ (way_top F hA la i hi).1
    | some m => exact I.fin _ (mem_ends.2 ((mate_some hmo).2.elim (fun h => ⟨_, h, .inl rfl⟩) (fun h => ⟨_, h, .inr rfl⟩)))
  generalize newRing N M t e A B i k A[i] = nr at *
  have hL : ∀ v ∈ rg, v < N.length ∧ upA N v < 0 := fun v hv => ⟨(hall v hv).1, (hall v hv).2.2⟩
  have hL' : ∀ v ∈ rg, v < N.length := fun v hv => (hall v hv).1
  have hnn := shrink_nd (x := nr) hL'
  have hup := shrink_up (x := nr) hL'
  have hT := shrink_top I.ups hL hx0
  have hW := fun {y : Nat} => shrink_win I.ups hL hx0 (y := y)
  have hge := I.ge
  have hle := shrink_length N rg nr
  refine ⟨by omega, shrink_ups I.ups hL' hx0, ?_, ?_, ?_, ?_, ?_, ?_, ?_, ?_⟩
  · intro v hv h0
    rw [hle] at hv
    rw [hup] at h0 ⊢
    by_cases h1 : v = N.length
    · rw [if_pos h1, hx0] at h0; omega
    · rw [if_neg h1] at h0 ⊢
      by_cases h2 : v ∈ rg
      · rw [if_pos h2, Int.toNat_natCast, hnn, if_pos rfl, hxr]; exact h2
      · rw [if_neg h2] at h0 ⊢
        have h3 := I.inr v (by omega) h0
        have h4 : (upA N v).toNat < N.length := by rcases I.ups v (by omega) with h | h <;> omega
        rw [hnn, if_neg (by omega)]
        split
        · exact h3
        · exact h3
  · intro v hv h0
    rw [hle] at hv
    rw [hup] at h0 ⊢
    by_cases h1 : v = N.length
    · rw [if_pos h1, hx0] at h0; omega
    · rw [if_neg h1] at h0 ⊢
      by_cases h2 : v ∈ rg
      · rw [if_pos h2, Int.toNat_natCast, hnn, if_pos rfl]; exact ⟨hxg, hge⟩
      · rw [if_neg h2] at h0 ⊢
        have h3 := I.ali v (by omega) h0
        have h4 : (upA N v).toNat < N.length := by rcases I.ups v (by omega) with h | h <;> omega
        refine ⟨?_, h3.2⟩
        rw [hnn, if_neg (by omega)]
        split
        · exact h3.1
        · exact h3.1
  · intro v hv h0
    rw [hle] at hv
    rw [hnn] at h0
    rw [hup]
    by_cases h1 : v = N.length
    · rw [if_pos h1, hx0]; decide
    · rw [if_neg h1] at h0 ⊢
      by_cases h2 : v ∈ rg
      · rw [if_pos h2] at h0
        have := (hall v h2).2.1
        simp only at h0
        rw [this] at h0; cases h0
      · rw [if_neg h2] at h0 ⊢
        exact I.gon v (by omega) h0
  · intro v hv
    rw [hnn, if_neg (by omega)]
    split
    · exact I.ver v hv
    · exact I.ver v hv
  · intro v hv
    rw [hle] at hv
    rw [hnn]
    by_cases h1 : v = N.length
    · rw [if_pos h1]; exact hxb
    · rw [if_neg h1]
      split
      · exact I.bas v (by omega)
      · exact I.bas v (by omega)
  · intro q hq1 hq2 hq3
    rw [hle] at hq2
    by_cases h1 : q = N.length
    · subst h1
      have er : (nd (shrinkN N rg nr) N.length).ring = rg := by rw [hnn, if_pos rfl]; exact hxr
      have el : (nd (shrinkN N rg nr) N.length).links = lks := by rw [hnn, if_pos rfl]; exact hxl
      refine ⟨?_, by rw [er]; exact hnd, by rw [er, hrl]; omega, by rw [er, el, hll, hrl], ?_⟩
      · intro x hx
        rw [er] at hx
        have := hL' x hx
        exact ⟨this, by rw [hup, if_neg (by omega), if_pos hx]⟩
      · simp only [er, el]
        intro p h0 h1 h2
        obtain ⟨g1, g2, g3, g4⟩ := hLK p h0 h1 h2
        refine ⟨hW _ (by omega) ?_, hW _ (by omega) ?_, g3, g4⟩
        · rw [← g1]; exact win_top I.ups _ (by omega)
        · rw [← g2]; exact win_top I.ups _ (by omega)
    · have hg : (nd N q).gone = false := by
        rw [hnn, if_neg h1] at hq3
        split at hq3
        · exact hq3
        · exact hq3
      have K := I.rings q hq1 (by omega) hg
      have er : (nd (shrinkN N rg nr) q).ring = (nd N q).ring := by rw [hnn, if_neg h1]; split <;> rfl
      have el : (nd (shrinkN N rg nr) q).links = (nd N q).links := by rw [hnn, if_neg h1]; split <;> rfl
      refine ⟨?_, by rw [er]; exact K.nodup, by rw [er]; exact K.odd, by rw [er, el]; exact K.len, ?_⟩
      · intro x hx
        rw [er] at hx
        have h2 := K.mem x hx
        have h3 : x ∉ rg := fun h => by have := (hL x h).2; omega
        exact ⟨h2.1, by rw [hup, if_neg (by omega), if_neg h3]; exact h2.2⟩
      · simp only [er, el]
        intro p h0 h1 h2
        obtain ⟨w1, w2, f1, f2⟩ := K.lk p h0 h1 h2
        exact ⟨hW _ (by omega) w1, hW _ (by omega) w2, f1, f2⟩
  · intro v hv
    obtain ⟨x, hx, h⟩ := mem_ends.1 hv
    exact I.fin v (mem_ends.2 ⟨x, (List.mem_filter.1 hx).1, h⟩)
  · have hkn := (tops_keep (N := N) (fun x => !(decide (top N x.f ∈ rg) && decide (top N x.t ∈ rg))) M I.mat).1
    unfold tops at hkn ⊢
    rw [List.nodup_iff_pairwise_ne, List.pairwise_map] at hkn ⊢
    have hE : ∀ v ∈ ends (keepM N rg M), v < N.length ∧ (top N v ∈ rg → top N v = A[i]) := by
      intro v hv
      obtain ⟨x, hx, h⟩ := mem_ends.1 hv
      unfold keepM at hx
      obtain ⟨hxM, hxp⟩ := List.mem_filter.1 hx
      have hvs : v < s := I.fin v (mem_ends.2 ⟨x, hxM, h⟩)
      refine ⟨by omega, fun hr => ?_⟩
      refine Classical.byContradiction fun hne => ?_
      simp only [Bool.not_eq_true', Bool.and_eq_false_iff, decide_eq_false_iff_not] at hxp
      rcases h with rfl | rfl
      · have hmo := mate_of I.mat (.inl hxM)
        have := hRM _ hr hne hmo
        rcases hxp with h | h
        · exact h hr
        · exact h this
      · have hmo := mate_of (m := x.flip) I.mat (.inr hxM)
        have := hRM _ hr hne hmo
        rcases hxp with h | h
        · exact h this
        · exact h hr
    refine List.Pairwise.imp_of_mem ?_ hkn
    intro v w hv hw hne
    obtain ⟨v1, v2⟩ := hE v hv
    obtain ⟨w1, w2⟩ := hE w hw
    rw [hT v v1, hT w w1]
    have tv := (top_spec I.ups v v1).1
    have tw := (top_spec I.ups w w1).1
    by_cases hv3 : top N v ∈ rg
    · rw [if_pos hv3]
      by_cases hw3 : top N w ∈ rg
      · exact absurd (by rw [v2 hv3, w2 hw3]) hne
      · rw [if_neg hw3]; omega
    · rw [if_neg hv3]
      by_cases hw3 : top N w ∈ rg
      · rw [if_pos hw3]; omega
      · rw [if_neg hw3]; exact hne
end
/-- Without the mate edges that touch a top. -/
def without (N : List Nd) (M : List Lk) (p : Nat) : List Lk := M.filter fun x => (top N x.f != p) && (top N x.t != p)
def withoutAll (N : List Nd) (M : List Lk) (L : List Nat) : List Lk := L.foldl (fun M p => without N M p) M
/-- The links of the odd ones of a way. -/
def oddLinks (t : Tp) (L : List Nat) : List Lk := (L.filter fun x => lab t x == 2).map (ahd t)
def augM (N : List Nd) (M : List Lk) (t : Tp) (e : Lk) (A B : List Nat) : List Lk := withoutAll N (withoutAll N M A) B ++ (e :: (oddLinks t A ++ oddLinks t B))
theorem without_all : ∀ (L : List Nat) (N : List Nd) (M : List Lk), withoutAll N M L = M.filter fun x => decide (top N x.f ∉ L) && decide (top N x.t ∉ L)
  | [], N, M => by
    have e : (fun x : Lk => decide (top N x.f ∉ ([] : List Nat)) && decide (top N x.t ∉ ([] : List Nat))) = fun _ => true := by funext x; simp
    rw [e]
    exact (List.filter_eq_self.2 (fun _ _ => rfl)).symm
  | p :: r, N, M => by
    show withoutAll N (without N M p) r = _
    rw [without_all r]
    unfold without
    rw [List.filter_filter]
    congr 1
    funext x
    by_cases h1 : top N x.f = p <;> by_cases h2 : top N x.t = p <;> by_cases h3 : top N x.f ∈ r <;> by_cases h4 : top N x.t ∈ r <;> simp [h1, h2, h3, h4]
/-- The tops of the odd links are the way without its first. -/
theorem odd_tops {s : Nat} {N : List Nd} {M : List Lk} {t : Tp} {rk : Nat → Nat} (F : For s N M t rk) : ∀ (A : List Nat) (a0 : Nat), IsWay N t rk a0 A → lab t a0 ≠ 0 → (lab t (rt t a0) = 1) →
    (∀ v ∈ ends (oddLinks t A), v < s) ∧ (lab t a0 = 1 → List.Perm (tops N (oddLinks t A)) A.tail) ∧ (lab t a0 = 2 → List.Perm (tops N (oddLinks t A)) A)
  | [], a0, h, _, _ => by have := h.pos; simp at this
  | [x], a0, h, h0, hr => by
    have hx : x = a0 := h.hd
    subst hx
    have hl : x = rt t x := by have := h.lst; simpa using this
    have h1 : lab t x = 1 := by rw [hl]; exact hr
    have e : oddLinks t [x] = [] := by simp [oddLinks, h1]
    rw [e]
    exact ⟨fun v hv => by simp [ends] at hv, fun _ => by simp [tops, ends], fun h2 => by omega⟩
  | x :: y :: r, a0, h, h0, hr => by
    have hx : x = a0 := h.hd
    subst hx
    obtain ⟨s1, s2, s3⟩ := h.st 0 (by simp)
    have s1 : y = par N t x := s1
    have h2 := F.two x
    have hy : lab t y = 3 - lab t x := by have := h.lb 1 (by simp); simpa using this
    have hry : rt t y = rt t x := by have := h.rts 1 (by simp); simpa using this
    have hW : IsWay N t rk y (y :: r) := by
      refine ⟨by simp, rfl, ?_, ?_, ?_, ?_⟩
      · have := h.lst; rw [hry]; simpa using this
      · intro i hi
        have := h.st (i + 1) (by simpa using hi)
        exact this
      · intro i hi
        have hi1 : i + 1 < (x :: y :: r).length := by simpa using hi
        have := h.lb (i + 1) hi1
        have e : (x :: y :: r)[i + 1] = (y :: r)[i] := rfl
        rw [e] at this
        rw [this, hy]
        by_cases h6 : i % 2 = 0
        · rw [if_pos h6, if_neg (by omega)]
        · rw [if_neg h6, if_pos (by omega)]; omega
      · intro i hi
        have hi1 : i + 1 < (x :: y :: r).length := by simpa using hi
        have := h.rts (i + 1) hi1
        have e : (x :: y :: r)[i + 1] = (y :: r)[i] := rfl
        rw [e] at this
        rw [this, hry]
    obtain ⟨i1, i2, i3⟩ := odd_tops F (y :: r) y hW (by omega) (by rw [hry]; exact hr)
    by_cases h1 : lab t x = 1
    · have e : oddLinks t (x :: y :: r) = oddLinks t (y :: r) := by simp [oddLinks, h1]
      rw [e]
      exact ⟨i1, fun _ => i3 (by omega), fun h => by omega⟩
    · have h3 : lab t x = 2 := by omega
      have e : oddLinks t (x :: y :: r) = ahd t x :: oddLinks t (y :: r) := by simp [oddLinks, h3]
      obtain ⟨⟨_, _, _, _, g5, g6, g7⟩, _⟩ := F.odd x h3
      rw [e]
      refine ⟨fun v hv => ?_, fun h => by omega, fun _ => ?_⟩
      · rw [ends_cons] at hv
        rcases List.mem_cons.1 hv with rfl | hv
        · exact g6
        · rcases List.mem_cons.1 hv with rfl | hv
          · exact g7
          · exact i1 v hv
      · have e2 : tops N (ahd t x :: oddLinks t (y :: r)) = top N (ahd t x).f :: top N (ahd t x).t :: tops N (oddLinks t (y :: r)) := rfl
        rw [e2, g5, show top N (ahd t x).f = y from s1.symm]
        have p1 := i2 (by omega)
        exact (List.Perm.swap x y _).trans ((p1.cons y).cons x)
section
variable {s : Nat} {N : List Nd} {M : List Lk} {t : Tp} {rk : Nat → Nat} {a0 b0 : Nat} {A B : List Nat} {e : Lk}
theorem augment_inv (I : Inv s N M) (F : For s N M t rk) (hA : IsWay N t rk a0 A) (hB : IsWay N t rk b0 B) (la : lab t a0 = 1) (lb : lab t b0 = 1) (hne : rt t a0 ≠ rt t b0) (he1 : top N e.f = a0) (he2 : top N e.t = b0) (hef : e.f < s) (het : e.t < s) : Inv s N (augM N M t e A B) := by
  have hra := (F.root a0 (by omega)).1
  have hrb := (F.root b0 (by omega)).1
  obtain ⟨oa1, oa2, _⟩ := odd_tops F A a0 hA (by omega) hra
  obtain ⟨ob1, ob2, _⟩ := odd_tops F B b0 hB (by omega) hrb
  have hdis : ∀ x ∈ A, x ∉ B := by
    intro x hx hy
    obtain ⟨i, hi, rfl⟩ := List.getElem_of_mem hx
    obtain ⟨k, hk, e⟩ := List.getElem_of_mem hy
    have h1 := hA.rts i hi
    have h2 := hB.rts k hk
    rw [e, h1] at h2
    exact hne h2
  have hAc : A = a0 :: A.tail := by
    cases A with
    | nil => have := hA.pos; simp at this
    | cons x r => have : x = a0 := hA.hd; subst this; rfl
  have hBc : B = b0 :: B.tail := by
    cases B with
    | nil => have := hB.pos; simp at this
    | cons x r => have : x = b0 := hB.hd; subst this; rfl
  have hke : withoutAll N (withoutAll N M A) B = M.filter fun x => decide (top N x.f ∉ A ++ B) && decide (top N x.t ∉ A ++ B) := by
    rw [without_all, without_all, List.filter_filter]
    congr 1
    funext x
    by_cases h1 : top N x.f ∈ A <;> by_cases h2 : top N x.t ∈ A <;> by_cases h3 : top N x.f ∈ B <;> by_cases h4 : top N x.t ∈ B <;> simp [h1, h2, h3, h4]
  have hK := tops_keep (N := N) (fun x => decide (top N x.f ∉ A ++ B) && decide (top N x.t ∉ A ++ B)) M I.mat
  refine ⟨I.ge, I.ups, I.inr, I.ali, I.gon, I.ver, I.bas, I.rings, ?_, ?_⟩
  · intro v hv
    unfold augM at hv
    rw [ends_append, List.mem_append] at hv
    rcases hv with hv | hv
    · rw [hke] at hv
      obtain ⟨x, hx, h⟩ := mem_ends.1 hv
      exact I.fin v (mem_ends.2 ⟨x, (List.mem_filter.1 hx).1, h⟩)
    · rw [ends_cons] at hv
      rcases List.mem_cons.1 hv with rfl | hv
      · exact hef
      · rcases List.mem_cons.1 hv with rfl | hv
        · exact het
        · rw [ends_append, List.mem_append] at hv
          exact hv.elim (oa1 v) (ob1 v)
  · unfold augM tops
    rw [ends_append, List.map_append, List.nodup_append]
    have hperm : List.Perm ((ends (e :: (oddLinks t A ++ oddLinks t B))).map (top N)) (A ++ B) := by
      rw [ends_cons, ends_append]
      simp only [List.map_cons, List.map_append]
      rw [he1, he2]
      have p1 : List.Perm ((ends (oddLinks t A)).map (top N) ++ (ends (oddLinks t B)).map (top N)) (A.tail ++ B.tail) := (oa2 la).append (ob2 lb)
      have p2 : List.Perm (b0 :: (A.tail ++ B.tail)) (A.tail ++ B) := by
        conv => rhs; rw [hBc]
        exact List.perm_middle.symm
      have p3 := ((p1.cons b0).trans p2).cons a0
      refine p3.trans ?_
      conv => rhs; rw [hAc]
      exact List.Perm.refl _
    refine ⟨?_, ?_, ?_⟩
    · rw [hke]; exact hK.1
    · rw [hperm.nodup_iff, List.nodup_append]
      exact ⟨hA.nodup, hB.nodup, fun x hx y hy e => hdis x hx (by rw [e]; exact hy)⟩
    · intro x hx y hy e
      subst e
      have hy' := hperm.mem_iff.1 hy
      rw [hke] at hx
      obtain ⟨v, hv, rfl⟩ := List.mem_map.1 hx
      obtain ⟨z, hz, h⟩ := mem_ends.1 hv
      obtain ⟨_, hp⟩ := List.mem_filter.1 hz
      simp only [Bool.and_eq_true, decide_eq_true_eq] at hp
      rcases h with rfl | rfl
      · exact hp.1 hy'
      · exact hp.2 hy'
/-- Two ways to one root meet. -/
theorem ways_meet (hA : IsWay N t rk a0 A) (hB : IsWay N t rk b0 B) (hr : rt t a0 = rt t b0) : ∃ x ∈ A, x ∈ B := by
  have h1 := hA.lst
  have h2 := hB.lst
  refine ⟨rt t a0, ?_, ?_⟩
  · rw [← h1]; exact List.getElem_mem _
  · rw [hr, ← h2]; exact List.getElem_mem _
end
end Sv
end Go.Proofs.Ytnihoabminnbcaa
