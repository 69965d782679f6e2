/-
  Texts of this claim, one behind the other: GrGroup2.
-/
import Derived.Test.YtalmbdfcpnkkpaaJ7
import Derived.Test.YtalmbdfcpnkkpaaJ11
import Derived.Test.YtalmbdfcpnkkpaaJ5

/-
  Groups and proofs: their sizes, copies of them, and that equal ones are told to be equal.
-/
namespace Go.Proofs.Ytalmbdfcpnkkpaa
namespace Gr
open Go.RowKit

theorem wrap_sub {left : Int} {n : Nat} (h0 : 0 ≤ left) (h1 : left ≤ 1048576) (hn : n ≤ 9223372036854775807) : IntKind.i64.wrap (left - (n : Int)) = left - (n : Int) := by
  have e : IntKind.i64.wrap (left - (n : Int)) = if (9223372036854775808 : Int) ≤ (left - (n : Int)) % 18446744073709551616 then (left - (n : Int)) % 18446744073709551616 - 18446744073709551616 else (left - (n : Int)) % 18446744073709551616 := by
    simp [IntKind.wrap, IntKind.signed, IntKind.bits]
  rw [e]
  split <;> omega

theorem gbulk_drop (G : List GrpI) (j : Nat) (h : j < G.length) : gbulk (G.drop j) = G[j].M.length + gbulk (G.drop (j + 1)) := by
  rw [List.drop_eq_getElem_cons h]
  rfl

/-- How great a proof is, in all (never more than the greatest number). -/
def psize (Y : List Int) (G : List GrpI) : Nat := min (Y.length + (G.length + gbulk G)) 9223372036854775807

end Gr
end Go.Proofs.Ytalmbdfcpnkkpaa
