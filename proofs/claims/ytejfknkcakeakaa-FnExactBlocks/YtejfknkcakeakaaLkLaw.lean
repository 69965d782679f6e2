/-
  The specification's Neighbours in the laws' form.
-/
import Derived.Test.YtejfknkcakeakaaLk1
namespace Go.Proofs.Ytejfknkcakeakaa
namespace Lk
open Go.RowKit
open Gr (EdgeI GrAt InOwn graphOk)

theorem specNbrs_gen (B : Nat) (v : Value) (s : Int) (Q : List EdgeI) (x : Int) (h1 : Q.length ≤ 1048576) (w : World) (hB : B ≤ w.heap.size) (hv : GrAt w v B s Q) :
    Calls Try.prog 11 #[v, .int .i64 x] w fun e w' => (∃ d, e = .returned d ∧ InOwn w' w.heap.size d (nbrs s Q x)) ∧ Below w.heap.size w w' := specNbrs_any v B s x Q h1 w hB hv

theorem nbrs_len (s : Int) (Q : List EdgeI) (x : Int) : (nbrs s Q x).length ≤ 9 := by
  unfold nbrs
  split
  · rename_i h
    have := ok_size h.1
    exact Nat.le_trans (nextTo_length _ _ _) (by omega)
  · simp

end Lk
end Go.Proofs.Ytejfknkcakeakaa
