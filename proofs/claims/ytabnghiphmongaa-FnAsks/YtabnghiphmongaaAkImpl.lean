/-
  The program's contracts of asks, in the form that a law's walk asks for.
-/
import Derived.Test.YtabnghiphmongaaAkI1
import Derived.Test.YtabnghiphmongaaAkI2
namespace Go.Proofs.Ytabnghiphmongaa
namespace Gr
open Go.RowKit

theorem implAskText_gen (B : Nat) (v : Value) (x : AskI) (w : World) (_hB : B ≤ w.heap.size) (hv : AkAt w v B x) :
    Calls Try.prog 8 #[v] w fun e w' => e = .returned (.tuple #[.string (askT x), .bool (askOk x)]) ∧ Below w.heap.size w w' := by
  unfold AkAt at hv
  subst hv
  exact implAskText_any x w

theorem implReadAsk_gen (B : Nat) (t : ByteArray) (ht : t.size ≤ 1048576) (w : World) (_hB : B ≤ w.heap.size) :
    Calls Try.prog 10 #[.string t] w fun e w' => (∃ d, e = .returned (.tuple #[d, .bool (raOk t)]) ∧ AkOwn w' w.heap.size d (raV t)) ∧ Below w.heap.size w w' := by
  refine (implReadAsk_any t ht w).mono ?_
  rintro e w' ⟨rfl, hb⟩
  exact ⟨⟨_, rfl, rfl⟩, hb⟩
end Gr
end Go.Proofs.Ytabnghiphmongaa
