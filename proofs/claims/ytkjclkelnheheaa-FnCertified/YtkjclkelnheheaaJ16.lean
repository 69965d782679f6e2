/-
 GrProof0, GrSets0.
-/
import Derived.Test.YtkjclkelnheheaaJ14
import Derived.Test.YtkjclkelnheheaaJ9
import Derived.Test.YtkjclkelnheheaaJ10
import Derived.Test.YtkjclkelnheheaaJ12
namespace Go.Proofs.Ytkjclkelnheheaa
namespace Gr
open Go.RowKit
def slackG (e : EdgeI) : Int → List GrpI → Int
  | s, [] => s
  | s, q :: r => slackG e (if (inK q.M e.A && inK q.M e.B) = true then s + q.Z else s) r
def yAt (Y : List Int) (x : Int) : Int := Y.getD x.toNat 0
def slackI (Y : List Int) (G : List GrpI) (e : EdgeI) : Int := slackG e (yAt Y e.A + yAt Y e.B - 2 * scal e) G
def cntIn (b : List Int) : Nat → List Int → Nat
  | n, [] => n
  | n, x :: r => cntIn b (if inK b x = true then n + 1 else n) r
def nested (a b : List Int) : Bool := decide (cntIn b 0 a = 0) || (decide (cntIn b 0 a = a.length) || decide (cntIn b 0 a = b.length))
def memOk (s : Int) : Option Int → List Int → Bool
  | _, [] => true
  | p, x :: r => (decide (0 ≤ x) && decide (x ≤ s - 1)) && ((match p with | none => true | some q => decide (q < x)) && memOk s (some x) r)
def grpHead (s : Int) (q : GrpI) : Bool := decide (3 ≤ q.M.length) && (decide (q.M.length % 2 = 1) && (decide ((q.M.length : Int) ≤ s) && (decide (1 ≤ q.Z) && decide (q.Z ≤ 1000000000))))
def nestAll (b : List Int) : List GrpI → Bool
  | [] => true
  | x :: r => nested x.M b && nestAll b r
def grpsOk (s : Int) : List GrpI → List GrpI → Bool
  | _, [] => true
  | D, q :: r => grpHead s q && (memOk s none q.M && (nestAll q.M D && grpsOk s (D ++ [q]) r))
def yOk : List Int → Bool
  | [] => true
  | x :: r => (decide (0 ≤ x) && decide (x ≤ 1000000000)) && yOk r
def slacksOk (Y : List Int) (G : List GrpI) : List EdgeI → Bool
  | [] => true
  | e :: r => decide (0 ≤ slackI Y G e) && slacksOk Y G r
def proofOk (s : Int) (Q : List EdgeI) (Y : List Int) (G : List GrpI) : Bool :=
  graphOk s Q && (decide ((Y.length : Int) = s) && (decide (G.length ≤ 8) && (yOk Y && (grpsOk s [] G && slacksOk Y G Q))))
def ySum : Int → List Int → Int
  | n, [] => n
  | n, x :: r => ySum (n + x) r
def gSum : Int → List GrpI → Int
  | n, [] => n
  | n, q :: r => gSum (n + q.Z * ((q.M.length / 2 : Nat) : Int)) r
def sumI (Y : List Int) (G : List GrpI) : Int := gSum (ySum 0 Y) G
def boundR (s : Int) (Q : List EdgeI) (Y : List Int) (G : List GrpI) : Int := if proofOk s Q Y G = true then sumI Y G / 2 else 0
theorem drop_step {α : Type} (L : List α) (k : Nat) (h : k < L.length) : L.drop k = L[k] :: L.drop (k + 1) := List.drop_eq_getElem_cons h
theorem yOk_at : ∀ (Y : List Int), yOk Y = true → ∀ x ∈ Y, 0 ≤ x ∧ x ≤ 1000000000
  | [], _, x, hx => by simp at hx
  | y :: r, h, x, hx => by
    unfold yOk at h
    simp only [Bool.and_eq_true, decide_eq_true_eq] at h
    rcases List.mem_cons.1 hx with rfl | hx
    · exact h.1
    · exact yOk_at r h.2 x hx
theorem grpsOk_at (s : Int) : ∀ (G D : List GrpI), grpsOk s D G = true → ∀ q ∈ G, grpHead s q = true
  | [], _, _, q, hq => by simp at hq
  | x :: r, D, h, q, hq => by
    unfold grpsOk at h
    simp only [Bool.and_eq_true] at h
    rcases List.mem_cons.1 hq with rfl | hq
    · exact h.1
    · exact grpsOk_at s r (D ++ [x]) h.2.2.2 q hq
theorem grpHead_iff (s : Int) (q : GrpI) : grpHead s q = true ↔ 3 ≤ q.M.length ∧ q.M.length % 2 = 1 ∧ (q.M.length : Int) ≤ s ∧ 1 ≤ q.Z ∧ q.Z ≤ 1000000000 := by
  unfold grpHead
  simp
theorem ySum_bounds : ∀ (Y : List Int) (n : Int), (∀ x ∈ Y, 0 ≤ x ∧ x ≤ 1000000000) → n ≤ ySum n Y ∧ ySum n Y ≤ n + 1000000000 * (Y.length : Int)
  | [], n, _ => by unfold ySum; simp
  | x :: r, n, h => by
    have hx := h x List.mem_cons_self
    have := ySum_bounds r (n + x) (fun y hy => h y (List.mem_cons_of_mem _ hy))
    unfold ySum
    rw [List.length_cons]
    omega
theorem half_bounds {q : GrpI} {s : Int} (h : grpHead s q = true) (h9 : s ≤ 9) : 0 ≤ q.Z * ((q.M.length / 2 : Nat) : Int) ∧ q.Z * ((q.M.length / 2 : Nat) : Int) ≤ 4000000000 := by
  obtain ⟨h1, h2, h3, h4, h5⟩ := (grpHead_iff s q).1 h
  have hk : q.M.length / 2 ≤ 4 := by omega
  have : q.M.length / 2 = 0 ∨ q.M.length / 2 = 1 ∨ q.M.length / 2 = 2 ∨ q.M.length / 2 = 3 ∨ q.M.length / 2 = 4 := by omega
  rcases this with e | e | e | e | e <;> rw [e] <;> omega
theorem gSum_bounds {s : Int} (h9 : s ≤ 9) : ∀ (G : List GrpI) (n : Int), (∀ q ∈ G, grpHead s q = true) → n ≤ gSum n G ∧ gSum n G ≤ n + 4000000000 * (G.length : Int)
  | [], n, _ => by unfold gSum; simp
  | q :: r, n, h => by
    have hq := half_bounds (h q List.mem_cons_self) h9
    have := gSum_bounds h9 r (n + q.Z * ((q.M.length / 2 : Nat) : Int)) (fun y hy => h y (List.mem_cons_of_mem _ hy))
    unfold gSum
    rw [List.length_cons]
    omega
theorem scal_range {s : Int} {e : EdgeI} (he : edgeOk s e = true) : 0 ≤ scal e ∧ scal e ≤ 4515050 := by
  obtain ⟨_, _, _, h1, h2, h3⟩ := (edgeOk_iff s e).1 he
  have e1 : 0 ≤ e.W1 ∧ e.W1 ≤ 50 := by unfold worthOk at h1; simpa using h1
  have e2 : 0 ≤ e.W2 ∧ e.W2 ≤ 50 := by unfold worthOk at h2; simpa using h2
  have e3 : 0 ≤ e.W3 ∧ e.W3 ≤ 50 := by unfold worthOk at h3; simpa using h3
  have hs : scal e = 90000 * e.W1 + 300 * e.W2 + e.W3 := by
    unfold scal
    rw [wrap_mod]
    omega
  rw [hs]
  omega
def onF (M : List Int) : Nat → Bool := fun j => inK M (j : Int)
def all9 (p : Nat → Bool) : Bool := (List.range 9).all p
theorem all9_iff (p : Nat → Bool) : all9 p = true ↔ ∀ j, j < 9 → p j = true := by
  unfold all9
  rw [List.all_eq_true]
  simp only [List.mem_range]
theorem all9_eq_iff (f g : Nat → Bool) : all9 (fun j => f j == g j) = true ↔ ∀ j, j < 9 → f j = g j := by
  rw [all9_iff]
  exact ⟨fun h j hj => by simpa using h j hj, fun h j hj => by simpa using h j hj⟩
def ov (f g : Nat → Bool) : Bool :=
  !all9 (fun j => (f j && g j) == f j) && (!all9 (fun j => (f j && g j) == g j) && !all9 (fun j => (f j && g j) == false))
def cntF (f : Nat → Bool) : Nat → Nat
  | 0 => 0
  | n + 1 => cntF f n + (if f n = true then 1 else 0)
theorem cntF_congr {f g : Nat → Bool} : ∀ n, (∀ j, j < n → f j = g j) → cntF f n = cntF g n
  | 0, _ => rfl
  | n + 1, h => by
    unfold cntF
    rw [cntF_congr n (fun j hj => h j (by omega)), h n (by omega)]
theorem cntF_le {f g : Nat → Bool} : ∀ n, (∀ j, j < n → f j = true → g j = true) → cntF f n ≤ cntF g n
  | 0, _ => Nat.le_refl _
  | n + 1, h => by
    have := cntF_le n (fun j hj => h j (by omega))
    have h1 := h n (by omega)
    unfold cntF
    cases hf : f n
    · simp
      omega
    · rw [h1 hf]
      simp
      omega
theorem cntF_eq {f g : Nat → Bool} : ∀ n, (∀ j, j < n → f j = true → g j = true) → cntF f n = cntF g n → ∀ j, j < n → f j = g j
  | 0, _, _, j, hj => absurd hj (by omega)
  | n + 1, h, e, j, hj => by
    have hle := cntF_le n (fun j hj => h j (by omega))
    have h1 := h n (by omega)
    unfold cntF at e
    have e2 : f n = g n ∧ cntF f n = cntF g n := by
      cases hf : f n <;> cases hg : g n <;> simp [hf, hg] at e h1 ⊢ <;> omega
    rcases Nat.lt_or_ge j n with hj' | hj'
    · exact cntF_eq n (fun j hj => h j (by omega)) e2.2 j hj'
    · obtain rfl : j = n := by omega
      exact e2.1
theorem cntF_zero (f : Nat → Bool) : ∀ n, cntF f n = 0 ↔ ∀ j, j < n → f j = false := by
  intro n
  have hz : cntF (fun _ => false) n = 0 := by
    induction n with
    | zero => rfl
    | succ n ih => unfold cntF; simp [ih]
  constructor
  · intro h j hj
    have := cntF_eq (f := fun _ => false) (g := f) n (fun j _ h => by cases h) (by rw [hz, h]) j hj
    exact this.symm
  · intro h
    rw [← hz]
    exact cntF_congr n h
def numQ (q : Nat → Bool) : List Int → Nat
  | [] => 0
  | x :: r => (if q x.toNat = true then 1 else 0) + numQ q r
theorem inK_cons (x : Int) (r : List Int) (y : Int) : inK (x :: r) y = (decide (y = x) || inK r y) := by
  unfold inK
  rw [Bool.eq_iff_iff]
  simp
theorem cntF_cons (x : Int) (r : List Int) (q : Nat → Bool) (hx : 0 ≤ x) (hr : inK r x = false) :
    ∀ n, cntF (fun j => onF (x :: r) j && q j) n = (if x.toNat < n ∧ q x.toNat = true then 1 else 0) + cntF (fun j => onF r j && q j) n
  | 0 => by simp [cntF]
  | n + 1 => by
    unfold cntF
    rw [cntF_cons x r q hx hr n]
    unfold onF
    rw [inK_cons]
    obtain ⟨k, rfl⟩ := Int.eq_ofNat_of_zero_le hx
    rw [Int.toNat_natCast]
    by_cases hn : n = k
    · subst hn
      rw [hr]
      simp
      cases q n <;> simp <;> omega
    · have h1 : ¬ ((n : Int) = (k : Int)) := by omega
      simp only [h1, decide_false, Bool.false_or]
      have h2 : k < n + 1 ↔ k < n := by omega
      simp only [h2]
      omega
theorem numQ_is (q : Nat → Bool) : ∀ (a : List Int), a.Pairwise (· < ·) → (∀ x ∈ a, 0 ≤ x ∧ x < 9) → numQ q a = cntF (fun j => onF a j && q j) 9
  | [], _, _ => by
    have h : cntF (fun j => onF [] j && q j) 9 = 0 := (cntF_zero _ 9).2 (fun j _ => by unfold onF inK; simp)
    rw [h]
    rfl
  | x :: r, hp, hx => by
    have hx0 := hx x List.mem_cons_self
    rw [List.pairwise_cons] at hp
    have hn : inK r x = false := by
      unfold inK
      rw [Bool.eq_false_iff]
      intro h
      have hm : x ∈ r := by simpa using h
      have := hp.1 x hm
      omega
    rw [cntF_cons x r q hx0.1 hn 9, ← numQ_is q r hp.2 (fun y hy => hx y (List.mem_cons_of_mem _ hy))]
    have : x.toNat < 9 := by omega
    rw [show numQ q (x :: r) = (if q x.toNat = true then 1 else 0) + numQ q r from rfl]
    simp [this]
theorem cntIn_is (b : List Int) : ∀ (a : List Int) (n : Nat), (∀ x ∈ a, 0 ≤ x ∧ x < 9) → cntIn b n a = n + numQ (onF b) a
  | [], n, _ => rfl
  | x :: r, n, h => by
    have hx0 := h x List.mem_cons_self
    unfold cntIn numQ
    rw [cntIn_is b r _ (fun y hy => h y (List.mem_cons_of_mem _ hy))]
    have e : onF b x.toNat = inK b x := by unfold onF; rw [Int.toNat_of_nonneg hx0.1]
    rw [e]
    cases inK b x <;> simp <;> omega
theorem length_is : ∀ (a : List Int), a.length = numQ (fun _ => true) a
  | [] => rfl
  | x :: r => by
    unfold numQ
    rw [List.length_cons, length_is r]
    simp
    omega
theorem nested_is {a b : List Int} (ha : a.Pairwise (· < ·)) (hb : b.Pairwise (· < ·)) (ra : ∀ x ∈ a, 0 ≤ x ∧ x < 9) (rb : ∀ x ∈ b, 0 ≤ x ∧ x < 9) : nested a b = !ov (onF b) (onF a) := by
  have e1 : cntIn b 0 a = cntF (fun j => onF b j && onF a j) 9 := by
    rw [cntIn_is b a 0 ra, Nat.zero_add, numQ_is _ a ha ra]
    exact cntF_congr 9 (fun j _ => by simp only [Bool.and_comm])
  have e2 : a.length = cntF (onF a) 9 := by
    rw [length_is, numQ_is _ a ha ra]
    exact cntF_congr 9 (fun j _ => by simp)
  have e3 : b.length = cntF (onF b) 9 := by
    rw [length_is, numQ_is _ b hb rb]
    exact cntF_congr 9 (fun j _ => by simp)
  unfold nested ov
  rw [e1, e2, e3]
  have k1 : decide (cntF (fun j => onF b j && onF a j) 9 = 0) = all9 (fun j => (onF b j && onF a j) == false) := by
    rw [Bool.eq_iff_iff, decide_eq_true_eq, cntF_zero, all9_iff]
    exact ⟨fun h j hj => by rw [h j hj]; rfl, fun h j hj => beq_iff_eq.1 (h j hj)⟩
  have k2 : decide (cntF (fun j => onF b j && onF a j) 9 = cntF (onF a) 9) = all9 (fun j => (onF b j && onF a j) == onF a j) := by
    rw [Bool.eq_iff_iff, decide_eq_true_eq, all9_eq_iff (fun j => onF b j && onF a j) (onF a)]
    exact ⟨fun h => cntF_eq 9 (fun j _ hj => by simp at hj; exact hj.2) h, fun h => cntF_congr 9 h⟩
  have k3 : decide (cntF (fun j => onF b j && onF a j) 9 = cntF (onF b) 9) = all9 (fun j => (onF b j && onF a j) == onF b j) := by
    rw [Bool.eq_iff_iff, decide_eq_true_eq, all9_eq_iff (fun j => onF b j && onF a j) (onF b)]
    exact ⟨fun h => cntF_eq 9 (fun j _ hj => by simp at hj; exact hj.1) h, fun h => cntF_congr 9 h⟩
  rw [k1, k2, k3]
  generalize all9 (fun j => (onF b j && onF a j) == false) = x
  generalize all9 (fun j => (onF b j && onF a j) == onF a j) = y
  generalize all9 (fun j => (onF b j && onF a j) == onF b j) = z
  cases x <;> cases y <;> cases z <;> rfl
theorem mem_asc (s : Int) : ∀ (M : List Int) (p : Option Int), memOk s p M = ascFrom s p M
  | [], _ => by unfold memOk ascFrom; rfl
  | y :: r, p => by unfold memOk ascFrom; rw [mem_asc s r] <;> cases p <;> rfl
theorem ascF_sound (s : Int) : ∀ (M : List Int) (p : Option Int), ascFrom s p M = true → M.Pairwise (· < ·) ∧ (∀ x ∈ M, 0 ≤ x ∧ x ≤ s - 1) ∧ (∀ q, p = some q → ∀ x ∈ M, q < x)
  | [], _, _ => ⟨List.Pairwise.nil, (fun x hx => by simp at hx), (fun _ _ x hx => by simp at hx)⟩
  | y :: r, p, h => by
    unfold ascFrom at h
    simp only [Bool.and_eq_true, decide_eq_true_eq] at h
    obtain ⟨h0, h1, h2⟩ := h
    obtain ⟨i1, i2, i3⟩ := ascF_sound s r (some y) h2
    refine ⟨List.pairwise_cons.2 ⟨fun x hx => i3 y rfl x hx, i1⟩, fun x hx => ?_, fun q hq x hx => ?_⟩
    · rcases List.mem_cons.1 hx with rfl | hx
      · exact h0
      · exact i2 x hx
    · subst hq
      simp only [decide_eq_true_eq] at h1
      rcases List.mem_cons.1 hx with rfl | hx
      · exact h1
      · have := i3 y rfl x hx
        omega
theorem ascF_length (s : Int) : ∀ (M : List Int) (p : Int), ascFrom s (some p) M = true → -1 ≤ p → p ≤ s - 1 → (M.length : Int) ≤ s - 1 - p
  | [], p, _, _, hp => by simp; omega
  | y :: r, p, h, h0, _ => by
    unfold ascFrom at h
    simp only [Bool.and_eq_true, decide_eq_true_eq] at h
    have := ascF_length s r y h.2.2 (by omega) (by omega)
    rw [List.length_cons]
    omega
theorem ascF_length_le {s : Int} {M : List Int} (h : ascFrom s none M = true) (hs : 0 ≤ s) : (M.length : Int) ≤ s := by
  cases M with
  | nil => simpa using hs
  | cons y r =>
    unfold ascFrom at h
    simp only [Bool.and_eq_true, decide_eq_true_eq] at h
    have := ascF_length s r y h.2.2 (by omega) (by omega)
    rw [List.length_cons]
    omega
def isPG (s : Int) (q : GrpI) : Bool := (decide (3 ≤ q.M.length) && (decide (q.M.length % 2 = 1) && (decide (1 ≤ q.Z) && decide (q.Z ≤ 1000000000)))) && ascFrom s none q.M
def allPG (s : Int) : List GrpI → Bool
  | [] => true
  | q :: r => isPG s q && allPG s r
theorem allPG_iff (s : Int) : ∀ G, allPG s G = true ↔ ∀ q ∈ G, isPG s q = true
  | [] => by unfold allPG; simp
  | q :: r => by unfold allPG; rw [Bool.and_eq_true, allPG_iff s r]; simp
theorem isPG_head {s : Int} {q : GrpI} (hs : 0 ≤ s) : isPG s q = (grpHead s q && memOk s none q.M) := by
  rw [mem_asc]
  unfold isPG grpHead
  cases h : ascFrom s none q.M
  · simp
  · have := ascF_length_le h hs
    rw [decide_eq_true this]
    simp
def setF (G : List GrpI) (i : Nat) : Nat → Bool := onF ((G[i]?).elim [] (·.M))
def doOv (F : Nat → Nat → Bool) : Bool := (List.range 8).any fun i => (List.range i).any fun k => ov (F i) (F k)
theorem doOv_iff (F : Nat → Nat → Bool) : doOv F = true ↔ ∃ i k, i < 8 ∧ k < i ∧ ov (F i) (F k) = true := by
  unfold doOv
  simp only [List.any_eq_true, List.mem_range]
  constructor
  · rintro ⟨i, hi, k, hk, h⟩
    exact ⟨i, k, hi, hk, h⟩
  · rintro ⟨i, k, hi, hk, h⟩
    exact ⟨i, hi, k, hk, h⟩
theorem nestAll_iff (b : List Int) : ∀ D, nestAll b D = true ↔ ∀ x ∈ D, nested x.M b = true
  | [] => by unfold nestAll; simp
  | x :: r => by unfold nestAll; rw [Bool.and_eq_true, nestAll_iff b r]; simp
theorem grpsOk_iff (s : Int) : ∀ (G D : List GrpI), grpsOk s D G = true ↔ (∀ q ∈ G, (grpHead s q && memOk s none q.M) = true) ∧ ∀ i (h : i < G.length), nestAll G[i].M (D ++ G.take i) = true
  | [], D => by unfold grpsOk; simp
  | q :: r, D => by
    unfold grpsOk
    simp only [Bool.and_eq_true]
    rw [grpsOk_iff s r (D ++ [q])]
    constructor
    · rintro ⟨h1, h2, h3, h4, h5⟩
      refine ⟨fun x hx => ?_, fun i hi => ?_⟩
      · rcases List.mem_cons.1 hx with rfl | hx
        · exact ⟨h1, h2⟩
        · simpa using h4 x hx
      · cases i with
        | zero => simpa using h3
        | succ i =>
          have := h5 i (by simpa using hi)
          simpa using this
    · rintro ⟨h1, h2⟩
      have hq := h1 q List.mem_cons_self
      have h20 := h2 0 (by simp)
      rw [List.take_zero, List.append_nil] at h20
      refine ⟨hq.1, hq.2, h20, fun x hx => by simpa using h1 x (List.mem_cons_of_mem _ hx), fun i hi => ?_⟩
      have := h2 (i + 1) (by simpa using hi)
      simpa using this
theorem isPG_sets {s : Int} {q : GrpI} (h9 : s ≤ 9) (h : isPG s q = true) : q.M.Pairwise (· < ·) ∧ ∀ x ∈ q.M, 0 ≤ x ∧ x < 9 := by
  unfold isPG at h
  rw [Bool.and_eq_true] at h
  obtain ⟨i1, i2, _⟩ := ascF_sound s q.M none h.2
  exact ⟨i1, fun x hx => by have := i2 x hx; omega⟩
theorem onF_nil : onF [] = fun _ => false := by
  funext j
  unfold onF inK
  simp
theorem ov_none (f : Nat → Bool) : ov (fun _ => false) f = false ∧ ov f (fun _ => false) = false := by
  unfold ov
  have : all9 (fun _ => false == false) = true := by decide
  simp [all9]
theorem grpsOk_is {s : Int} {G : List GrpI} (hs : 0 ≤ s) (h9 : s ≤ 9) (h8 : G.length ≤ 8) (hG : allPG s G = true) : grpsOk s [] G = !doOv (setF G) := by
  have hpg := (allPG_iff s G).1 hG
  rw [Bool.eq_iff_iff, grpsOk_iff]
  simp only [Bool.not_eq_true', Bool.eq_false_iff, ne_eq, doOv_iff, List.nil_append]
  have hat : ∀ i (h : i < G.length), setF G i = onF G[i].M := fun i h => by unfold setF; simp [h]
  constructor
  · rintro ⟨_, h2⟩ ⟨i, k, hi, hk, ho⟩
    rcases Nat.lt_or_ge i G.length with hl | hl
    · have h3 := (nestAll_iff _ _).1 (h2 i hl) G[k] (by
        rw [List.mem_take_iff_getElem]
        exact ⟨k, by omega, rfl⟩)
      obtain ⟨p1, r1⟩ := isPG_sets h9 (hpg _ (List.getElem_mem (show k < G.length by omega)))
      obtain ⟨p2, r2⟩ := isPG_sets h9 (hpg _ (List.getElem_mem hl))
      rw [nested_is p1 p2 r1 r2] at h3
      rw [hat i hl, hat k (by omega)] at ho
      rw [ho] at h3
      cases h3
    · have : setF G i = fun _ => false := by unfold setF; simp [hl, onF_nil]
      rw [this, (ov_none _).1] at ho
      cases ho
  · intro h
    refine ⟨fun q hq => by rw [← isPG_head hs]; exact hpg q hq, fun i hi => (nestAll_iff _ _).2 (fun x hx => ?_)⟩
    rw [List.mem_take_iff_getElem] at hx
    obtain ⟨k, hk, rfl⟩ := hx
    obtain ⟨p1, r1⟩ := isPG_sets h9 (hpg _ (List.getElem_mem (show k < G.length by omega)))
    obtain ⟨p2, r2⟩ := isPG_sets h9 (hpg _ (List.getElem_mem hi))
    rw [nested_is p1 p2 r1 r2]
    cases ho : ov (onF G[i].M) (onF G[k].M)
    · rfl
    · exact absurd ⟨i, k, by omega, by omega, by rw [hat i hi, hat k (by omega)]; exact ho⟩ h
theorem proofOk_is (s : Int) (Q : List EdgeI) (Y : List Int) (G : List GrpI) (hgs : graphOk s Q = true → 0 ≤ s ∧ s ≤ 9) :
    proofOk s Q Y G = (graphOk s Q && ((yOk Y && decide ((Y.length : Int) = s)) && ((allPG s G && decide (G.length ≤ 8)) && (!doOv (setF G) && slacksOk Y G Q)))) := by
  unfold proofOk
  cases hg : graphOk s Q with
  | false => rfl
  | true =>
    obtain ⟨h0, h9⟩ := hgs hg
    have key : (decide (G.length ≤ 8) && grpsOk s [] G) = ((allPG s G && decide (G.length ≤ 8)) && !doOv (setF G)) := by
      by_cases h8 : G.length ≤ 8
      · cases hG : allPG s G with
        | false =>
          have : grpsOk s [] G = false := by
            rw [Bool.eq_false_iff]
            intro h
            have h1 := ((grpsOk_iff s G []).1 h).1
            have : allPG s G = true := (allPG_iff s G).2 (fun q hq => by rw [isPG_head h0]; exact h1 q hq)
            rw [hG] at this
            cases this
          rw [this]
          simp
        | true => rw [grpsOk_is h0 h9 h8 hG]; simp
      · rw [decide_eq_false h8]
        simp
    generalize slacksOk Y G Q = c at *
    generalize doOv (setF G) = d at *
    generalize allPG s G = e at *
    generalize decide (G.length ≤ 8) = f at *
    generalize grpsOk s [] G = x at *
    generalize yOk Y = y at *
    generalize decide ((Y.length : Int) = s) = z at *
    revert key
    cases c <;> cases d <;> cases e <;> cases f <;> cases x <;> cases y <;> cases z <;> decide
end Gr
end Go.Proofs.Ytkjclkelnheheaa
