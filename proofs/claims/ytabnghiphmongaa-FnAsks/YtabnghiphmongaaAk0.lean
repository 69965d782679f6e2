/-
  Asks in bytes, as mathematics: what AskText and ReadAsk tell.
-/
import Derived.Test.YtabnghiphmongaaGrRd
import Derived.Test.YtabnghiphmongaaGrKAsk
namespace Go.Proofs.Ytabnghiphmongaa
namespace Gr
open Go.RowKit

/-- How many numbers of an ask are told. -/
def askN (op : Int) : Nat := if op = 1 ∨ op = 3 ∨ op = 5 then 1 else if op = 2 then 5 else 0

theorem askN_le (op : Int) : askN op ≤ 5 := by unfold askN; (repeat' split) <;> omega

def askL (x : AskI) : List Int := [x.A, x.B, x.W1, x.W2, x.W3]

/-- The numbers behind the k-th, written behind s. -/
def askGo (n : Nat) : Nat → ByteArray → List Int → Option ByteArray
  | _, s, [] => some s
  | k, s, y :: r => if (decide (0 ≤ y) && decide (y ≤ 1000000000)) && (decide (k < n) || decide (y = 0)) then askGo n (k + 1) (if k < n then s ++ vB y else s) r else none

def opB (op : Int) : ByteArray := ⟨#[UInt8.ofNat op.toNat]⟩

/-- What AskText tells. -/
def askR (x : AskI) : Option ByteArray := if 1 ≤ x.Op ∧ x.Op ≤ 6 then askGo (askN x.Op) 0 (opB x.Op) (askL x) else none

def askT (x : AskI) : ByteArray := (askR x).getD ⟨#[]⟩
def askOk (x : AskI) : Bool := (askR x).isSome

theorem askGo_step (n k : Nat) (s : ByteArray) (L : List Int) (h : k < L.length) : askGo n k s (L.drop k) = if (decide (0 ≤ L[k]) && decide (L[k] ≤ 1000000000)) && (decide (k < n) || decide (L[k] = 0)) then askGo n (k + 1) (if k < n then s ++ vB L[k] else s) (L.drop (k + 1)) else none := by
  rw [List.drop_eq_getElem_cons h]
  rfl

/-- Numbers, as many as an ask has: those that were read, and noughts. -/
def padL (L : List Int) : List Int := L ++ List.replicate (5 - L.length) 0

def askOf (op : Int) (L : List Int) : AskI := ⟨op, (padL L).getD 0 0, (padL L).getD 1 0, (padL L).getD 2 0, (padL L).getD 3 0, (padL L).getD 4 0⟩

/-- n numbers, whether they are there or not. -/
def rdN (t : ByteArray) : Nat → CS → List Int × CS
  | 0, c => ([], c)
  | k + 1, c => let a := rd t c; let r := rdN t k a.2; (a.1 :: r.1, r.2)

def opOf (t : ByteArray) : Int := (byteAt t 0 : Int)

/-- What is read, right or not. -/
def raX (t : ByteArray) : AskI := askOf (opOf t) (rdN t (askN (opOf t)) ⟨1, false⟩).1

/-- What ReadAsk tells. -/
def raOk (t : ByteArray) : Bool := decide (0 < t.size) && (!(rdN t (askN (opOf t)) ⟨1, false⟩).2.b && (askOk (raX t) && decide (askT (raX t) = t)))
def raV (t : ByteArray) : AskI := if raOk t = true then raX t else AskI.zero

end Gr
end Go.Proofs.Ytabnghiphmongaa
