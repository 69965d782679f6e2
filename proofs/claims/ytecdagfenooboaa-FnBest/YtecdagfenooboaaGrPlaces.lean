/-
  The contract of spec.DrawPlaces: a row of twelve numbers, new; and of laws.big.
-/
import Derived.Test.YtecdagfenooboaaGrDraw
namespace Go.Proofs.Ytecdagfenooboaa
namespace Gr
open Go.RowKit

theorem big_is (a : Option Addr) (len cap : Nat) (w : World) :
    Calls Try.prog 27 #[.slice a len cap] w fun e w' => e = .returned (.bool (decide ((1048576 : Int) < (len : Int)))) ∧ w' = w := by
  go_enter Try.func27, Try.ntmps27
  go_wp2
  go_ret
  exact ⟨rfl, rfl⟩

theorem one_int (x : Int) : ∀ u ∈ [Value.int .i64 x], u.oneCell' = true := fun u hu => by simp at hu; rw [hu]; rfl

theorem intsV_snoc (K : List Int) (x : Int) : intsV (K ++ [x]) = intsV K ++ [.int .i64 x] := by simp [intsV]

theorem own_shape {w : World} {B e s n : Nat} {v : Value} {xs : List Value} (h : w.ownsRow B e s v n xs) : ∃ A c, v = .slice A n c := by
  rcases h.2 with ⟨rfl, rfl⟩ | ⟨g, cap, cur, rfl, _⟩
  · exact ⟨none, 0, rfl⟩
  · exact ⟨_, cap, rfl⟩

/-- What stands while places are drawn. -/
def PD (a : Option Addr) (len cap g B : Nat) (w : World) (i : Nat) (v : Value) (wr : World) : Prop :=
  CC a len cap g B wr ∧ Kept (fun k => k = g) w wr ∧ ∃ K : List Int, K.length = i ∧ wr.ownsRow w.heap.size 3 1 v i (intsV K)

end Gr
end Go.Proofs.Ytecdagfenooboaa
