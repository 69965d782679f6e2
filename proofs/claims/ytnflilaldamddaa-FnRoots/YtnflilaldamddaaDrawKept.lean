/-
  The contract of spec.l01Text, with all that it keeps.
-/
import Derived.Test.YtnflilaldamddaaDrawText
import Derived.Test.YtnflilaldamddaaKeptG
namespace Go.Proofs.Ytnflilaldamddaa
open Go.RowKit

theorem Kept.strip {S : Nat → Prop} {w w' : World} (h : Kept (fun k => S k ∨ w.heap.size ≤ k) w w') : Kept S w w' :=
  ⟨h.1, h.2.1, h.2.2.1, h.2.2.2.1, fun i hi hn => h.2.2.2.2 i hi (fun e => by rcases e with e | e; exact hn e; omega)⟩

theorem Cur.kept {S : Nat → Prop} {a : Option Addr} {len cap g : Nat} {w w' : World} (h : Cur a len cap g w) (hk : Kept S w w') (hS : ¬ S g) : Cur a len cap g w' := by
  have hlt := h.lt
  obtain ⟨i, x, hi, hh⟩ := h
  exact ⟨i, x, hi, by rw [hk.2.2.2.2 g hlt hS]; exact hh⟩

theorem grown_kept {w w' : World} {g : Nat} (h : w.grownBy w' (some g)) : Kept (fun k => k = g) w w' := (Kept.of_grown h).weak (fun _ hk => (Option.some.inj hk).symm)

end Go.Proofs.Ytnflilaldamddaa
