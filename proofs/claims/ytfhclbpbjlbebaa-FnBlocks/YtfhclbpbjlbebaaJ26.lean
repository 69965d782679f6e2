/-
  Texts of this claim, one behind the other: GrProof0.
-/
import Derived.Test.YtfhclbpbjlbebaaJ20
import Derived.Test.YtfhclbpbjlbebaaJ12
import Derived.Test.YtfhclbpbjlbebaaJ13

/-
  Proofs, as mathematics: what is one, its slacks, its sum.
-/
namespace Go.Proofs.Ytfhclbpbjlbebaa
namespace Gr
open Go.RowKit

/-- z of all groups that have both ends of an edge, and what was there. -/
def slackG (e : EdgeI) : Int → List GrpI → Int
  | s, [] => s
  | s, q :: r => slackG e (if (inK q.M e.A && inK q.M e.B) = true then s + q.Z else s) r

/-- The x-th number. -/
def yAt (Y : List Int) (x : Int) : Int := Y.getD x.toNat 0

def slackI (Y : List Int) (G : List GrpI) (e : EdgeI) : Int := slackG e (yAt Y e.A + yAt Y e.B - 2 * scal e) G

/-- How many of some are among b, and n. -/
def cntIn (b : List Int) : Nat → List Int → Nat
  | n, [] => n
  | n, x :: r => cntIn b (if inK b x = true then n + 1 else n) r

/-- One has all of the other one, or they have none in common. -/
def nested (a b : List Int) : Bool := decide (cntIn b 0 a = 0) || (decide (cntIn b 0 a = a.length) || decide (cntIn b 0 a = b.length))

/-- Members behind p: ascending vertices. -/
def memOk (s : Int) : Option Int → List Int → Bool
  | _, [] => true
  | p, x :: r => (decide (0 ≤ x) && decide (x ≤ s - 1)) && ((match p with | none => true | some q => decide (q < x)) && memOk s (some x) r)

def grpHead (s : Int) (q : GrpI) : Bool := decide (3 ≤ q.M.length) && (decide (q.M.length % 2 = 1) && (decide ((q.M.length : Int) ≤ s) && (decide (1 ≤ q.Z) && decide (q.Z ≤ 1000000000))))

def nestAll (b : List Int) : List GrpI → Bool
  | [] => true
  | x :: r => nested x.M b && nestAll b r

/-- Groups behind others. -/
def grpsOk (s : Int) : List GrpI → List GrpI → Bool
  | _, [] => true
  | D, q :: r => grpHead s q && (memOk s none q.M && (nestAll q.M D && grpsOk s (D ++ [q]) r))

def yOk : List Int → Bool
  | [] => true
  | x :: r => (decide (0 ≤ x) && decide (x ≤ 1000000000)) && yOk r

def slacksOk (Y : List Int) (G : List GrpI) : List EdgeI → Bool
  | [] => true
  | e :: r => decide (0 ≤ slackI Y G e) && slacksOk Y G r

/-- What a proof is. -/
def proofOk (s : Int) (Q : List EdgeI) (Y : List Int) (G : List GrpI) : Bool :=
  graphOk s Q && (decide ((Y.length : Int) = s) && (decide (G.length ≤ 8) && (yOk Y && (grpsOk s [] G && slacksOk Y G Q))))

def ySum : Int → List Int → Int
  | n, [] => n
  | n, x :: r => ySum (n + x) r

def gSum : Int → List GrpI → Int
  | n, [] => n
  | n, q :: r => gSum (n + q.Z * ((q.M.length / 2 : Nat) : Int)) r

/-- What no pairing has more than, twice. -/
def sumI (Y : List Int) (G : List GrpI) : Int := gSum (ySum 0 Y) G

def boundR (s : Int) (Q : List EdgeI) (Y : List Int) (G : List GrpI) : Int := if proofOk s Q Y G = true then sumI Y G / 2 else 0

theorem drop_step {α : Type} (L : List α) (k : Nat) (h : k < L.length) : L.drop k = L[k] :: L.drop (k + 1) := List.drop_eq_getElem_cons h

theorem yOk_at : ∀ (Y : List Int), yOk Y = true → ∀ x ∈ Y, 0 ≤ x ∧ x ≤ 1000000000
  | [], _, x, hx => by simp at hx
  | y :: r, h, x, hx => by
    unfold yOk at h
    simp only [Bool.and_eq_true, decide_eq_true_eq] at h
    rcases List.mem_cons.1 hx with rfl | hx
    · exact h.1
    · exact yOk_at r h.2 x hx

theorem grpsOk_at (s : Int) : ∀ (G D : List GrpI), grpsOk s D G = true → ∀ q ∈ G, grpHead s q = true
  | [], _, _, q, hq => by simp at hq
  | x :: r, D, h, q, hq => by
    unfold grpsOk at h
    simp only [Bool.and_eq_true] at h
    rcases List.mem_cons.1 hq with rfl | hq
    · exact h.1
    · exact grpsOk_at s r (D ++ [x]) h.2.2.2 q hq

theorem grpHead_iff (s : Int) (q : GrpI) : grpHead s q = true ↔ 3 ≤ q.M.length ∧ q.M.length % 2 = 1 ∧ (q.M.length : Int) ≤ s ∧ 1 ≤ q.Z ∧ q.Z ≤ 1000000000 := by
  unfold grpHead
  simp

theorem ySum_bounds : ∀ (Y : List Int) (n : Int), (∀ x ∈ Y, 0 ≤ x ∧ x ≤ 1000000000) → n ≤ ySum n Y ∧ ySum n Y ≤ n + 1000000000 * (Y.length : Int)
  | [], n, _ => by unfold ySum; simp
  | x :: r, n, h => by
    have hx := h x List.mem_cons_self
    have := ySum_bounds r (n + x) (fun y hy => h y (List.mem_cons_of_mem _ hy))
    unfold ySum
    rw [List.length_cons]
    omega

theorem half_bounds {q : GrpI} {s : Int} (h : grpHead s q = true) (h9 : s ≤ 9) : 0 ≤ q.Z * ((q.M.length / 2 : Nat) : Int) ∧ q.Z * ((q.M.length / 2 : Nat) : Int) ≤ 4000000000 := by
  obtain ⟨h1, h2, h3, h4, h5⟩ := (grpHead_iff s q).1 h
  have hk : q.M.length / 2 ≤ 4 := by omega
  have : q.M.length / 2 = 0 ∨ q.M.length / 2 = 1 ∨ q.M.length / 2 = 2 ∨ q.M.length / 2 = 3 ∨ q.M.length / 2 = 4 := by omega
  rcases this with e | e | e | e | e <;> rw [e] <;> omega

theorem gSum_bounds {s : Int} (h9 : s ≤ 9) : ∀ (G : List GrpI) (n : Int), (∀ q ∈ G, grpHead s q = true) → n ≤ gSum n G ∧ gSum n G ≤ n + 4000000000 * (G.length : Int)
  | [], n, _ => by unfold gSum; simp
  | q :: r, n, h => by
    have hq := half_bounds (h q List.mem_cons_self) h9
    have := gSum_bounds h9 r (n + q.Z * ((q.M.length / 2 : Nat) : Int)) (fun y hy => h y (List.mem_cons_of_mem _ hy))
    unfold gSum
    rw [List.length_cons]
    omega

theorem slackG_bounds {s : Int} (e : EdgeI) : ∀ (G : List GrpI) (n : Int), (∀ q ∈ G, grpHead s q = true) → n ≤ slackG e n G ∧ slackG e n G ≤ n + 1000000000 * (G.length : Int)
  | [], n, _ => by unfold slackG; simp
  | q :: r, n, h => by
    obtain ⟨_, _, _, h4, h5⟩ := (grpHead_iff s q).1 (h q List.mem_cons_self)
    have i1 := slackG_bounds e r (n + q.Z) (fun y hy => h y (List.mem_cons_of_mem _ hy))
    have i2 := slackG_bounds e r n (fun y hy => h y (List.mem_cons_of_mem _ hy))
    unfold slackG
    rw [List.length_cons]
    split <;> omega

theorem scal_range {s : Int} {e : EdgeI} (he : edgeOk s e = true) : 0 ≤ scal e ∧ scal e ≤ 4515050 := by
  obtain ⟨_, _, _, h1, h2, h3⟩ := (edgeOk_iff s e).1 he
  have e1 : 0 ≤ e.W1 ∧ e.W1 ≤ 50 := by unfold worthOk at h1; simpa using h1
  have e2 : 0 ≤ e.W2 ∧ e.W2 ≤ 50 := by unfold worthOk at h2; simpa using h2
  have e3 : 0 ≤ e.W3 ∧ e.W3 ≤ 50 := by unfold worthOk at h3; simpa using h3
  have hs : scal e = 90000 * e.W1 + 300 * e.W2 + e.W3 := by
    unfold scal
    rw [wrap_mod]
    omega
  rw [hs]
  omega

theorem cntIn_le (b : List Int) : ∀ (a : List Int) (n : Nat), cntIn b n a ≤ n + a.length
  | [], n => by unfold cntIn; simp
  | x :: r, n => by
    unfold cntIn
    rw [List.length_cons]
    split
    · have := cntIn_le b r (n + 1); omega
    · have := cntIn_le b r n; omega
end Gr
end Go.Proofs.Ytfhclbpbjlbebaa
