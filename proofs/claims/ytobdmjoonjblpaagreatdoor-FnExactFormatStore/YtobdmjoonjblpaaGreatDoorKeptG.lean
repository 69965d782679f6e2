/-
  What a world that has grown has kept.
-/
import Derived.Test.YtobdmjoonjblpaaGreatDoorMarkDev
namespace Go.Proofs.YtobdmjoonjblpaaGreatDoor
open Go.RowKit

theorem Kept.of_grown {w w' : World} {row : Option Nat} (h : w.grownBy w' row) : Kept (fun k => row = some k) w w' :=
  ⟨h.os, h.tape, h.output, h.size, fun i hi hn => h.block i hi (fun e => hn e.symm)⟩

end Go.Proofs.YtobdmjoonjblpaaGreatDoor
