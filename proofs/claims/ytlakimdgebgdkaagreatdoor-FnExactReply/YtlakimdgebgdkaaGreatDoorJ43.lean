/-
  Texts of this claim, one behind the other: RhE.
-/
import Derived.Test.YtlakimdgebgdkaaGreatDoorJ20
import Derived.Test.YtlakimdgebgdkaaGreatDoorJ18
import Derived.Test.YtlakimdgebgdkaaGreatDoorJ23
import Derived.Test.YtlakimdgebgdkaaGreatDoorJ14
import Derived.Test.YtlakimdgebgdkaaGreatDoorJ6

/-
  The register: what the program asks of it.
-/
namespace Go.Proofs.YtlakimdgebgdkaaGreatDoor
namespace Rg
open Go.RowKit

/-- Who joined. -/
def joined (R : Rgs) (i : Int) : Bool := decide (0 ≤ i) && (decide (i < 12) && decide ((R.mem i.toNat).1 ≠ 0))

def lkOk (R : Rgs) (a b : Nat) : Bool := match R.lnk a b with | none => true | some (x, y, z) => joined R a && (joined R b && (decide (x ≤ 50) && (decide (y ≤ 50) && decide (z ≤ 50))))

def linksOk (R : Rgs) : Bool := (List.range 12).all fun a => (List.range 12).all fun b => lkOk R a b

theorem linksOk_iff (R : Rgs) : linksOk R = true ↔ ∀ a, a < 12 → ∀ b, b < 12 → lkOk R a b = true := by
  unfold linksOk
  simp only [List.all_eq_true, List.mem_range]

def poolR (R : Rgs) (K : List Int) : Bool := decide (∀ i ∈ K, joined R i = true) && (decide (K.length ≤ 9) && Gr.chainFrom none K)

/-- Is a round of its form? -/
def rdOk (R : Rgs) (x : List Int × List ByteArray) : Bool := (decide (Gr.partsT (joinB x.2) = x.2) && Gr.rcOk (joinB x.2)) && (decide ((Gr.rcV (joinB x.2)).s = (x.1.length : Int)) && poolR R x.1)

def roundsR (R : Rgs) : Bool := decide (∀ x ∈ R.rds, rdOk R x = true) && decide (R.rds.length ≤ 6)

def membersOk (R : Rgs) : Bool := (List.range 12).all fun a => !(decide ((R.mem a).1 = 3) && !decide ((R.mem a).2 < R.rds.length))

theorem membersOk_iff (R : Rgs) : membersOk R = true ↔ ∀ a, a < 12 → (R.mem a).1 = 3 → (R.mem a).2 < R.rds.length := by
  unfold membersOk
  simp only [List.all_eq_true, List.mem_range, Bool.not_eq_true', Bool.and_eq_false_iff, decide_eq_false_iff_not, Bool.not_eq_false', decide_eq_true_eq]
  constructor
  · intro h a ha h3
    rcases h a ha with h | h
    · exact absurd h3 h
    · exact h
  · intro h a ha
    by_cases h3 : (R.mem a).1 = 3
    · exact Or.inr (h a ha h3)
    · exact Or.inl h3

def checks (R : Rgs) : Bool := linksOk R && (roundsR R && membersOk R)

/-- Is a state right, as the program asks? -/
def regOk (Q : PL) : Bool := decide (Tr.MapR Q) && (match regFold R0 Q with | none => false | some R => checks R)

/-- The first n numbers of which something holds. -/
def whoTo (f : Nat → Bool) (n : Nat) : List Int := ((List.range n).filter f).map fun (i : Nat) => (i : Int)

theorem who_succ (f : Nat → Bool) (n : Nat) : whoTo f (n + 1) = if f n = true then whoTo f n ++ [(n : Int)] else whoTo f n := by
  unfold whoTo
  rw [List.range_succ, List.filter_append, List.map_append]
  by_cases h : f n = true
  · simp [h]
  · simp [h]

def isIn (R : Rgs) (a : Nat) : Bool := joined R (a : Int)
def isHereR (R : Rgs) (i : Int) : Bool := decide (0 ≤ i) && (decide (i < 12) && decide ((R.mem i.toNat).1 = 1))
def isHr (R : Rgs) (a : Nat) : Bool := isHereR R (a : Int)

end Rg
end Go.Proofs.YtlakimdgebgdkaaGreatDoor
