/-
  The specification's Neighbours in the laws' form.
-/
import Derived.Test.YtkidkfopnghghaaLk1
namespace Go.Proofs.Ytkidkfopnghghaa
namespace Lk
open Go.RowKit
open Gr (EdgeI GrAt InOwn graphOk)

theorem nbrs_len (s : Int) (Q : List EdgeI) (x : Int) : (nbrs s Q x).length ≤ 9 := by
  unfold nbrs
  split
  · rename_i h
    have := ok_size h.1
    exact Nat.le_trans (nextTo_length _ _ _) (by omega)
  · simp

end Lk
end Go.Proofs.Ytkidkfopnghghaa
