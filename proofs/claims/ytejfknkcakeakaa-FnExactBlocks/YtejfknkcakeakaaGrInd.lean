/-
  The contract of spec.Induced.
-/
import Derived.Test.YtejfknkcakeakaaGrEdgeAt
import Derived.Test.YtejfknkcakeakaaGrInts
import Derived.Deep.AppendLies
namespace Go.Proofs.Ytejfknkcakeakaa
namespace Gr
open Go.RowKit

/-- Where a number stands first on a list. -/
def placeFrom (x : Int) : Nat → List Int → Int
  | _, [] => -1
  | k, y :: r => if (y == x) = true then (k : Int) else placeFrom x (k + 1) r

def placeOf (K : List Int) (x : Int) : Int := placeFrom x 0 K

theorem placeFrom_step (x : Int) (K : List Int) (k : Nat) (h : k < K.length) : placeFrom x k (K.drop k) = if (K[k] == x) = true then (k : Int) else placeFrom x (k + 1) (K.drop (k + 1)) := by
  rw [← List.getElem_cons_drop h]
  rfl

/-- Whether a list ascends, and has vertices alone. -/
def ascFrom (s : Int) : Option Int → List Int → Bool
  | _, [] => true
  | p, y :: r => (decide (0 ≤ y) && decide (y ≤ s - 1)) && ((match p with | none => true | some q => decide (q < y)) && ascFrom s (some y) r)

def prevK (K : List Int) (k : Nat) : Option Int := if k = 0 then none else K[k - 1]?

theorem ascFrom_step (s : Int) (K : List Int) (k : Nat) (h : k < K.length) : ascFrom s (prevK K k) (K.drop k) = ((decide (0 ≤ K[k]) && decide (K[k] ≤ s - 1)) && ((match prevK K k with | none => true | some q => decide (q < K[k])) && ascFrom s (prevK K (k + 1)) (K.drop (k + 1)))) := by
  rw [← List.getElem_cons_drop h]
  have e : prevK K (k + 1) = some K[k] := by unfold prevK; simp [h]
  rw [e]
  rfl

/-- An edge among the vertices of a list. -/
def indE (K : List Int) (e : EdgeI) : Option EdgeI := if 0 ≤ placeOf K e.A ∧ 0 ≤ placeOf K e.B then some ⟨placeOf K e.A, placeOf K e.B, e.W1, e.W2, e.W3⟩ else none

def indL (K : List Int) (Q : List EdgeI) : List EdgeI := Q.filterMap (indE K)

def indOk (s : Int) (Q : List EdgeI) (K : List Int) : Bool := graphOk s Q && ascFrom s none K

def indS (s : Int) (Q : List EdgeI) (K : List Int) : Int := if indOk s Q K = true then (K.length : Int) else 0
def indQ (s : Int) (Q : List EdgeI) (K : List Int) : List EdgeI := if indOk s Q K = true then indL K Q else []

theorem indL_length (K : List Int) (Q : List EdgeI) : (indL K Q).length ≤ Q.length := List.length_filterMap_le _ _

theorem indQ_length (s : Int) (Q : List EdgeI) (K : List Int) : (indQ s Q K).length ≤ Q.length := by
  unfold indQ
  split
  · exact indL_length K Q
  · simp

theorem indL_step (K : List Int) (Q : List EdgeI) (k : Nat) (h : k < Q.length) : indL K (Q.drop k) = (match indE K Q[k] with | none => [] | some x => [x]) ++ indL K (Q.drop (k + 1)) := by
  rw [← List.getElem_cons_drop h]
  unfold indL
  rw [List.filterMap_cons]
  cases indE K Q[k] <;> rfl

/-- What a function answers that hands back a graph and a flag. -/
def GrPost (w : World) (s : Int) (Q : List EdgeI) (b : Bool) (e : Ending) (w' : World) : Prop :=
  (∃ d, e = .returned (.tuple #[d, .bool b]) ∧ GrOwn w' w.heap.size d s Q) ∧ Below w.heap.size w w'

theorem grNil (w : World) (B : Nat) : GrOwn w B (.agg #[.int .i64 0, .slice none 0 0]) 0 [] := ⟨_, rfl, rfl, .inl ⟨rfl, rfl⟩⟩

theorem news_edge (W : World) (a b c d e : Int) (t : TypeId) : ∀ j u, [Value.int .i64 a, Value.int .i64 b, Value.int .i64 c, Value.int .i64 d, Value.int .i64 e][j]? = some u → (W.alloc (Obj.cells #[.int .i64 a, .int .i64 b, .int .i64 c, .int .i64 d, .int .i64 e] t)).cell? ((⟨W.heap.size, 0, none⟩ : Addr).add j) = some u :=
  World.news_of_block (heap_alloc_new W (Obj.cells #[.int .i64 a, .int .i64 b, .int .i64 c, .int .i64 d, .int .i64 e] t))

theorem edge_one (a b c d e : Int) : ∀ u ∈ [Value.int .i64 a, Value.int .i64 b, Value.int .i64 c, Value.int .i64 d, Value.int .i64 e], u.oneCell' = true := by
  intro u hu
  simp at hu
  rcases hu with rfl | rfl | rfl | rfl | rfl <;> rfl

end Gr
end Go.Proofs.Ytejfknkcakeakaa
