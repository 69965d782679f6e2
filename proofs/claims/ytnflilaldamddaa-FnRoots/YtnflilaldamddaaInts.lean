/-
  The contracts of laws.toIntS, eqIntS and markIntS.
-/
import Derived.Test.YtnflilaldamddaaIntsAt
import Derived.Test.YtnflilaldamddaaMarks
import Derived.Deep.RegionHeld3
namespace Go.Proofs.Ytnflilaldamddaa
open Go.RowKit

theorem info3 : (Try.prog.info? 3).map (fun i => (i.zero, i.size, i.bytes)) = some (some (.int .i64 0), 1, 8) := by kernel_rfl

def intsV (K : List Int) : List Value := K.map (Value.int .i64)

theorem intsV_set (K : List Int) (i : Nat) (x : Int) : (intsV K).set i (.int .i64 x) = intsV (K.set i x) := by simp [intsV, List.map_set]

theorem made_ints (n : Nat) (M : Array Value) (hM : M = madeCells (Value.int .i64 0).cells (n * 1)) : M.toList = intsV (List.replicate n 0) ∧ M.size = n * 1 := by
  constructor
  · rw [hM]
    simp [madeCells, intsV, Value.cells]
    refine List.eq_replicate_iff.2 ⟨by simp, fun b hb => ?_⟩
    obtain ⟨x, _, rfl⟩ := List.mem_map.1 hb
    simp [Nat.mod_one]
  · rw [hM, size_madeCells]

theorem IntsAt.of_own {w : World} {B : Nat} {v : Value} {n : Nat} {K : List Int} (h : w.ownsRow B 3 1 v n (intsV K)) : ∃ a c, v = .slice a n c ∧ IntsAt w a n w.heap.size K := by
  have hl : K.length = n := by have := h.1; simp [intsV] at this; omega
  rcases h.2 with ⟨rfl, h0⟩ | ⟨g, cap, cur, rfl, hg, hh, _⟩
  · subst h0
    exact ⟨none, 0, rfl, hl, fun j hj => by omega⟩
  · refine ⟨_, _, rfl, hl, fun j hj => ⟨g, 0, rfl, (h.lt g rfl).2, ?_⟩⟩
    rw [Nat.zero_add, h.cellAt j (by omega)]
    simp [intsV, hj]

end Go.Proofs.Ytnflilaldamddaa
