/-
  The best of all pairings and how many there are, gone through edge by edge: the same as vertex by vertex.
-/
import Derived.Test.YtejfknkcakeakaaGrBestMath
namespace Go.Proofs.Ytejfknkcakeakaa
namespace Gr
open Go.RowKit

/-- The better of two sums. -/
def mx (a b : SumsI) : SumsI := if better b a = true then b else a

theorem LE.antisymm {a b : SumsI} (h : LE a b) (k : LE b a) : a = b := by
  obtain ⟨a1, a2, a3⟩ := a
  obtain ⟨b1, b2, b3⟩ := b
  unfold LE at h k
  simp only at h k
  have : a1 = b1 ∧ a2 = b2 ∧ a3 = b3 := by omega
  obtain ⟨rfl, rfl, rfl⟩ := this
  rfl

theorem LE.total (a b : SumsI) : LE a b ∨ LE b a := by unfold LE; omega

theorem le_of_better {a b : SumsI} (h : better b a = true) : LE a b := by
  have := (better_iff b a).1 h
  unfold LE
  omega

theorem mx_le {a b c : SumsI} : LE (mx a b) c ↔ LE a c ∧ LE b c := by
  unfold mx
  cases h : better b a with
  | true => exact ⟨fun k => ⟨(le_of_better h).trans k, k⟩, fun k => k.2⟩
  | false => exact ⟨fun k => ⟨k, ((le_iff b a).1 h).trans k⟩, fun k => k.1⟩

theorem le_mx_left (a b : SumsI) : LE a (mx a b) := (mx_le.1 (LE.refl _)).1
theorem le_mx_right (a b : SumsI) : LE b (mx a b) := (mx_le.1 (LE.refl _)).2

theorem mx_eq {a b c : SumsI} (h : ∀ d, LE c d ↔ LE a d ∧ LE b d) : mx a b = c :=
  LE.antisymm (mx_le.2 ((h c).1 (LE.refl _))) ((h _).2 (mx_le.1 (LE.refl _)))

theorem mx_comm (a b : SumsI) : mx a b = mx b a := mx_eq fun d => by rw [mx_le]; exact And.comm
theorem mx_assoc (a b c : SumsI) : mx (mx a b) c = mx a (mx b c) := mx_eq fun d => by rw [mx_le, mx_le, mx_le]; exact and_assoc.symm
theorem mx_of_le {a b : SumsI} (h : LE a b) : mx a b = b := mx_eq fun _ => ⟨fun k => ⟨h.trans k, k⟩, fun k => k.2⟩
theorem mx_of_ge {a b : SumsI} (h : LE b a) : mx a b = a := by rw [mx_comm]; exact mx_of_le h

/-- Two sums together. -/
def plus (s t : SumsI) : SumsI := ⟨s.W1 + t.W1, s.W2 + t.W2, s.W3 + t.W3⟩

theorem plus_le {s a b : SumsI} : LE (plus s a) (plus s b) ↔ LE a b := by unfold LE plus; simp only; omega
theorem plus_zero (s : SumsI) : plus s ⟨0, 0, 0⟩ = s := by unfold plus; simp
theorem zero_plus (s : SumsI) : plus ⟨0, 0, 0⟩ s = s := by unfold plus; simp
theorem plus_add (s t : SumsI) (e : EdgeI) : plus (addS s e) t = plus s (addS t e) := by
  unfold plus addS
  simp only [SumsI.mk.injEq]
  omega
theorem plus_mx (s a b : SumsI) : plus s (mx a b) = mx (plus s a) (plus s b) := by
  rcases LE.total a b with h | h
  · rw [mx_of_le h, mx_of_le (plus_le.2 h)]
  · rw [mx_of_ge h, mx_of_ge (plus_le.2 h)]

/-- The best sums and the number of two heaps of pairings together. -/
def comb (a b : SumsI × Int) : SumsI × Int := (mx a.1 b.1, a.2 + b.2)

theorem comb_comm (a b : SumsI × Int) : comb a b = comb b a := by unfold comb; rw [mx_comm, Int.add_comm]
theorem comb_assoc (a b c : SumsI × Int) : comb (comb a b) c = comb a (comb b c) := by unfold comb; simp only; rw [mx_assoc, Int.add_assoc]

/-- The same pairings, with an edge more in each. -/
def addP (x : SumsI × Int) (e : EdgeI) : SumsI × Int := (addS x.1 e, x.2)

/-- Whether an edge's vertices are not used. -/
def freeE (U : List Int) (e : EdgeI) : Bool := !(inK U e.A || inK U e.B)

/-- The best sums of all pairings by these edges that use no used vertex, and how many there are. -/
def each : List EdgeI → List Int → SumsI × Int
  | [], _ => (⟨0, 0, 0⟩, 1)
  | e :: r, U => if freeE U e = true then comb (each r U) (addP (each r (U ++ [e.A, e.B])) e) else each r U

theorem inK_app (U V : List Int) (x : Int) : inK (U ++ V) x = (inK U x || inK V x) := by
  unfold inK
  rw [Bool.eq_iff_iff]
  simp

theorem each_congr : ∀ (r : List EdgeI) (U V : List Int), (∀ e ∈ r, inK U e.A = inK V e.A ∧ inK U e.B = inK V e.B) → each r U = each r V
  | [], _, _, _ => rfl
  | e :: r, U, V, h => by
    have h0 := h e List.mem_cons_self
    have hr := fun x hx => h x (List.mem_cons_of_mem _ hx)
    have hf : freeE U e = freeE V e := by unfold freeE; rw [h0.1, h0.2]
    unfold each
    rw [hf, each_congr r U V hr, each_congr r (U ++ [e.A, e.B]) (V ++ [e.A, e.B]) (fun x hx => by
      rw [inK_app, inK_app, inK_app, inK_app, (hr x hx).1, (hr x hx).2]
      exact ⟨rfl, rfl⟩)]

theorem each_pos : ∀ (r : List EdgeI) (U : List Int), 1 ≤ (each r U).2
  | [], _ => Int.le_refl _
  | e :: r, U => by
    unfold each
    split
    · have := each_pos r U
      have := each_pos r (U ++ [e.A, e.B])
      show 1 ≤ (each r U).2 + (each r (U ++ [e.A, e.B])).2
      omega
    · exact each_pos r U

theorem each_mono (e : EdgeI) (r : List EdgeI) (U : List Int) : LE (each r U).1 (each (e :: r) U).1 := by
  rw [each]
  split
  · exact le_mx_left _ _
  · exact LE.refl _

/-- Where one vertex of the first edges is used, they are as if they were not there. -/
theorem each_skip : ∀ (b r : List EdgeI) (U : List Int), (∀ e ∈ b, freeE U e = false) → each (b ++ r) U = each r U
  | [], _, _, _ => rfl
  | e :: b, r, U, h => by
    rw [List.cons_append, each, if_neg (by rw [h e List.mem_cons_self]; simp)]
    exact each_skip b r U (fun x hx => h x (List.mem_cons_of_mem _ hx))

/-- The edges from (f, b) on. -/
def since (f b : Int) (e : EdgeI) : Bool := decide (f < e.A ∨ e.A = f ∧ b ≤ e.B)

theorem since_iff (f b : Int) (e : EdgeI) : since f b e = true ↔ f < e.A ∨ e.A = f ∧ b ≤ e.B := by unfold since; simp

theorem filter_same {α : Type} (p q : α → Bool) : ∀ l : List α, (∀ x ∈ l, p x = q x) → l.filter p = l.filter q
  | [], _ => rfl
  | x :: l, h => by
    rw [List.filter_cons, List.filter_cons, h x List.mem_cons_self, filter_same p q l (fun y hy => h y (List.mem_cons_of_mem _ hy))]

theorem since_next (f b : Int) : ∀ (Q : List EdgeI), Q.Pairwise (fun a b => ahead a b = true) →
    (∀ e ∈ Q, e.A = f → e.B = b → Q.filter (since f b) = e :: Q.filter (since f (b + 1))) ∧ ((∀ e ∈ Q, ¬ (e.A = f ∧ e.B = b)) → Q.filter (since f b) = Q.filter (since f (b + 1)))
  | [], _ => ⟨fun e he => by simp at he, fun _ => rfl⟩
  | q :: r, h => by
    rw [List.pairwise_cons] at h
    obtain ⟨h1, h2⟩ := h
    obtain ⟨i1, i2⟩ := since_next f b r h2
    constructor
    · intro e he hA hB
      rcases List.mem_cons.1 he with rfl | her
      · have t : since f b e = true := (since_iff _ _ _).2 (Or.inr ⟨hA, by omega⟩)
        have t' : since f (b + 1) e = false := by
          rw [Bool.eq_false_iff]
          intro k
          have := (since_iff _ _ _).1 k
          omega
        rw [List.filter_cons, if_pos t, List.filter_cons, if_neg (by rw [t']; simp), i2 (fun x hx hh => by
          have := (ahead_iff _ _).1 (h1 x hx)
          omega)]
      · have ha := (ahead_iff _ _).1 (h1 e her)
        have t : since f b q = false := by
          rw [Bool.eq_false_iff]
          intro k
          have := (since_iff _ _ _).1 k
          omega
        have t' : since f (b + 1) q = false := by
          rw [Bool.eq_false_iff]
          intro k
          have := (since_iff _ _ _).1 k
          omega
        rw [List.filter_cons, if_neg (by rw [t]; simp), List.filter_cons, if_neg (by rw [t']; simp)]
        exact i1 e her hA hB
    · intro hno
      refine filter_same _ _ _ (fun x hx => ?_)
      have := hno x hx
      rw [Bool.eq_iff_iff, since_iff, since_iff]
      omega

/-- The loop over one vertex's fellows is the way through its edges. -/
theorem bloop_each {s : Int} {Q : List EdgeI} (hg : graphOk s Q = true) (f : Int) (U : List Int) (hU : inK U f = false) :
    ∀ (m : Nat) (b : Int) (Y : SumsI × Int), f < b → b + (m : Int) = s →
      bloop Q f U (fun V => each (Q.filter (since f s)) V) m b (comb Y (each (Q.filter (since f s)) U)) = comb Y (each (Q.filter (since f b)) U)
  | 0, b, Y, hb, hm => by
    have : b = s := by omega
    subst this
    rfl
  | m + 1, b, Y, hb, hm => by
    obtain ⟨hs0, hs9, hok, hpw⟩ := graph_sound hg
    obtain ⟨n1, n2⟩ := since_next f b Q hpw
    have IH := fun Y => bloop_each hg f U hU m (b + 1) Y (by omega) (by omega)
    show bloop Q f U _ m (b + 1) (bstep Q f U _ _ b) = _
    by_cases hx : ∃ e ∈ Q, hit f b e = true
    · obtain ⟨i, e, hi, hh, ha⟩ := at_some f b Q 0 hx
      rw [Nat.zero_add] at ha
      have heQ : e ∈ Q := List.mem_of_getElem? hi
      obtain ⟨eA, eB⟩ := (hit_iff (hok e heQ) hb).1.1 hh
      have hE : edgeN Q (atFrom f b 0 Q) = e := by
        unfold edgeN
        rw [ha, Int.toNat_natCast, List.getD_eq_getElem?_getD, hi]
        rfl
      rw [n1 e heQ eA eB]
      cases hub : inK U b with
      | true =>
        have hs : bstep Q f U (fun V => each (Q.filter (since f s)) V) (comb Y (each (Q.filter (since f s)) U)) b = comb Y (each (Q.filter (since f s)) U) := by
          unfold bstep
          rw [if_pos (Or.inr hub)]
        rw [hs, IH, each, if_neg (by unfold freeE; rw [eB, hub]; simp)]
      | false =>
        have hs : bstep Q f U (fun V => each (Q.filter (since f s)) V) (comb Y (each (Q.filter (since f s)) U)) b = comb (comb Y (addP (each (Q.filter (since f s)) (U ++ [b])) e)) (each (Q.filter (since f s)) U) := by
          rw [comb_assoc, comb_comm (addP _ _), ← comb_assoc]
          unfold bstep
          rw [if_neg (by rw [hub]; simp; omega), hE]
          rfl
        have hk : each (Q.filter (since f (b + 1))) (U ++ [e.A, e.B]) = each (Q.filter (since f s)) (U ++ [b]) := by
          have hsk : ∀ (k : Nat) (c : Int), f < c → c + (k : Int) = s → each (Q.filter (since f c)) (U ++ [e.A, e.B]) = each (Q.filter (since f s)) (U ++ [e.A, e.B]) := by
            intro k
            induction k with
            | zero => intro c _ hc; have : c = s := by omega
                      subst this; rfl
            | succ k ih =>
              intro c hc hcs
              obtain ⟨m1, m2⟩ := since_next f c Q hpw
              rw [← ih (c + 1) (by omega) (by omega)]
              by_cases hy : ∃ x ∈ Q, x.A = f ∧ x.B = c
              · obtain ⟨x, hxQ, xA, xB⟩ := hy
                rw [m1 x hxQ xA xB, each, if_neg (by unfold freeE; rw [inK_app, xA, eA]; simp [inK])]
              · rw [m2 (fun x hxQ hh => hy ⟨x, hxQ, hh⟩)]
          rw [hsk m (b + 1) (by omega) (by omega)]
          refine each_congr _ _ _ (fun x hx => ?_)
          obtain ⟨hxQ, hxs⟩ := List.mem_filter.1 hx
          obtain ⟨x0, x1, x2, _⟩ := (edgeOk_iff s x).1 (hok x hxQ)
          have := (since_iff _ _ _).1 hxs
          have hfA : x.A ≠ f := by omega
          have hfB : x.B ≠ f := by omega
          rw [inK_app, inK_app, inK_app, inK_app, eA, eB]
          unfold inK
          simp [hfA, hfB]
        rw [hs, IH, each, if_pos (by unfold freeE; rw [eA, eB, hU, hub]; rfl), hk, comb_assoc, comb_comm (addP _ _)]
    · have hno : ∀ e ∈ Q, ¬ hit f b e = true := fun e he hh => hx ⟨e, he, hh⟩
      have hat := at_none f b Q 0 hno
      have hs : bstep Q f U (fun V => each (Q.filter (since f s)) V) (comb Y (each (Q.filter (since f s)) U)) b = comb Y (each (Q.filter (since f s)) U) := by
        unfold bstep
        rw [if_pos (Or.inl (by omega))]
      rw [hs, IH, n2 (fun e he hh => hno e he ((hit_iff (hok e he) hb).1.2 hh))]

theorem each_since_mono {Q : List EdgeI} (hpw : Q.Pairwise (fun a b => ahead a b = true)) (f : Int) (U : List Int) : ∀ (k : Nat) (c : Int), LE (each (Q.filter (since f (c + (k : Int)))) U).1 (each (Q.filter (since f c)) U).1
  | 0, c => by
    have : c + ((0 : Nat) : Int) = c := by omega
    rw [this]
    exact LE.refl _
  | k + 1, c => by
    have e : c + ((k + 1 : Nat) : Int) = (c + 1) + (k : Int) := by omega
    rw [e]
    refine (each_since_mono hpw f U k (c + 1)).trans ?_
    obtain ⟨m1, m2⟩ := since_next f c Q hpw
    by_cases hy : ∃ x ∈ Q, x.A = f ∧ x.B = c
    · obtain ⟨x, hxQ, xA, xB⟩ := hy
      rw [m1 x hxQ xA xB]
      exact each_mono _ _ _
    · rw [m2 (fun x hxQ hh => hy ⟨x, hxQ, hh⟩)]
      exact LE.refl _

/-- Vertex by vertex is edge by edge. -/
theorem best_each {s : Int} {Q : List EdgeI} (hg : graphOk s Q = true) : ∀ (n : Nat) (U : List Int), (n : Int) ≤ s → best Q s n U = each (Q.filter (since (s - (n : Int)) (s - (n : Int)))) U
  | 0, U, _ => by
    obtain ⟨hs0, hs9, hok, hpw⟩ := graph_sound hg
    have : Q.filter (since (s - ((0 : Nat) : Int)) (s - ((0 : Nat) : Int))) = [] := by
      rw [List.filter_eq_nil_iff]
      intro e he
      obtain ⟨x0, x1, x2, _⟩ := (edgeOk_iff s e).1 (hok e he)
      rw [since_iff]
      omega
    rw [this]
    rfl
  | n + 1, U, hn => by
    obtain ⟨hs0, hs9, hok, hpw⟩ := graph_sound hg
    have IH := fun V => best_each hg n V (by omega)
    generalize hf : s - ((n + 1 : Nat) : Int) = f
    have hf1 : s - (n : Int) = f + 1 := by omega
    have E1 : Q.filter (since (f + 1) (f + 1)) = Q.filter (since f s) := by
      refine filter_same _ _ _ (fun x hx => ?_)
      obtain ⟨x0, x1, x2, _⟩ := (edgeOk_iff s x).1 (hok x hx)
      rw [Bool.eq_iff_iff, since_iff, since_iff]
      omega
    have E2 : Q.filter (since f f) = Q.filter (since f (f + 1)) := by
      refine filter_same _ _ _ (fun x hx => ?_)
      obtain ⟨x0, x1, x2, _⟩ := (edgeOk_iff s x).1 (hok x hx)
      rw [Bool.eq_iff_iff, since_iff, since_iff]
      omega
    have IH' : ∀ V, best Q s n V = each (Q.filter (since f s)) V := fun V => by rw [IH V, hf1, E1]
    cases hu : inK U f with
    | true =>
      rw [best_skip Q s n U (by rw [hf]; exact hu), IH', E2]
      have hsk : ∀ (k : Nat) (c : Int), f < c → c + (k : Int) = s → each (Q.filter (since f c)) U = each (Q.filter (since f s)) U := by
        intro k
        induction k with
        | zero => intro c _ hc; have : c = s := by omega
                  subst this; rfl
        | succ k ih =>
          intro c hc hcs
          obtain ⟨m1, m2⟩ := since_next f c Q hpw
          rw [← ih (c + 1) (by omega) (by omega)]
          by_cases hy : ∃ x ∈ Q, x.A = f ∧ x.B = c
          · obtain ⟨x, hxQ, xA, xB⟩ := hy
            rw [m1 x hxQ xA xB, each, if_neg (by unfold freeE; rw [xA, hu]; simp)]
          · rw [m2 (fun x hxQ hh => hy ⟨x, hxQ, hh⟩)]
      exact (hsk n (f + 1) (by omega) (by omega)).symm
    | false =>
      rw [best_loop Q s n U (by rw [hf]; exact hu), hf, hf1, E2]
      have hfun : (fun V => best Q s n V) = (fun V => each (Q.filter (since f s)) V) := funext IH'
      rw [hfun, IH' U]
      generalize hR : each (Q.filter (since f s)) U = R
      have h0 : comb (R.1, 0) R = R := by
        unfold comb
        simp only
        rw [mx_of_le (LE.refl _)]
        simp
      have hB := bloop_each hg f U hu n (f + 1) (R.1, 0) (by omega) (by omega)
      rw [hR, h0] at hB
      rw [hB]
      have hm := each_since_mono hpw f U n (f + 1)
      have e1 : f + 1 + (n : Int) = s := by omega
      rw [e1, hR] at hm
      unfold comb
      simp only
      rw [mx_of_le hm]
      simp

theorem best_is_each {s : Int} {Q : List EdgeI} (hg : graphOk s Q = true) : best Q s s.toNat [] = each Q [] := by
  obtain ⟨hs0, hs9, hok, hpw⟩ := graph_sound hg
  rw [best_each hg s.toNat [] (by omega)]
  have : Q.filter (since (s - (s.toNat : Int)) (s - (s.toNat : Int))) = Q := by
    rw [List.filter_eq_self]
    intro e he
    obtain ⟨x0, x1, x2, _⟩ := (edgeOk_iff s e).1 (hok e he)
    rw [since_iff]
    omega
  rw [this]

/-- One edge looked at: what the program reckons. -/
theorem each_drop (Q : List EdgeI) (U : List Int) (i : Nat) (h : i < Q.length) : each (Q.drop i) U = if freeE U Q[i] = true then comb (each (Q.drop (i + 1)) U) (addP (each (Q.drop (i + 1)) (U ++ [Q[i].A, Q[i].B])) Q[i]) else each (Q.drop (i + 1)) U := by
  rw [List.drop_eq_getElem_cons h, each]
end Gr
end Go.Proofs.Ytejfknkcakeakaa
