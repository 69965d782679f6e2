/-
  No cell of these rows narrows 'for every input' (looked for: loops, veiled, ifaces, maps, wideKeys, modest, calm, conditions, laid).
  DERIVED. THE GIVEN ROWS OF THIS SEAT. 5 by the template 'for every input the law returns true; each argument reads behind the call as it read before'; 0 by the template 'total and deterministic' (their statements: YtmajajhbhdgngaaTotals.lean).
  GIVEN WITH THE SEED: the statements are not yours to turn. If you find one false, say at which input.
  Laid BY PROGRAM, IN A SANDBOX (cutbox-rows.mjs): the forced cells as the released guide's own fill.sh prints them over the translation 7da4d2956b1a644c… (all of the seat's roots in one cut). By AI agents, Wed Nov 11 2026. No macro, syntax, notation, axiom, sorry.
-/
import Derived.Test.YtmajajhbhdgngaaChecked
import GoSem.Claim
import GoSem.ClaimJoined
import GoSem.ClaimMapViews
import Derived.JoinedTies
import Derived.KernelRfl
namespace Go.Proofs.Ytmajajhbhdgngaa
/- THE CELL 'sum', in the pinned program and in every row, IS THE sha256 OF THE DUMP (.gsa) THAT YtmajajhbhdgngaaProg.lean LOADS. Nothing in Lean hashes anything: it is a label: what it is worth is what the hold of that sum in a sandbox is worth. -/
noncomputable def Try.pinned : Pinned := { name := "ytmajajhbhdgngaa", sum := "7da4d2956b1a644c491b00f677f6217d9debed2395af9218bd7da229b91a2fed", checked := Try.checked }
namespace Rows
def none {H : Type} : Left H := { results := [], args := [] }

/-- 'laws.FnExactGraphOk': WHATEVER THE INPUT: true; the input reads as it did. -/
def fnExactGraphOkSpec : ChangeSpec := { name := "fnExactGraphOk", fn := fun _ => fun
  | [d] => { results := [.lit (.bool true)], args := [d] }
  | _ => none }
def fnExactGraphOkRow : OpenClaim := { program := "ytmajajhbhdgngaa", sum := "7da4d2956b1a644c491b00f677f6217d9debed2395af9218bd7da229b91a2fed", func := "loop.example/g00105/laws.FnExactGraphOk", spec := "fnExactGraphOk", apart := false }
def FnExactGraphOkSaid : Prop := fnExactGraphOkRow.holds Try.pinned (OpenSpec.ofChange fnExactGraphOkSpec)

/-- ITS FALSE NEIGHBOUR: 'it returns false'. Refute it at one input. -/
def fnExactGraphOkWrong : ChangeSpec := { name := "fnExactGraphOk", fn := fun _ => fun
  | [d] => { results := [.lit (.bool false)], args := [d] }
  | _ => none }
def FnExactGraphOkWrongFalsely : Prop := fnExactGraphOkRow.holds Try.pinned (OpenSpec.ofChange fnExactGraphOkWrong)

/-- 'laws.FnExactScalar': WHATEVER THE INPUT: true; the input reads as it did. -/
def fnExactScalarSpec : ChangeSpec := { name := "fnExactScalar", fn := fun _ => fun
  | [d] => { results := [.lit (.bool true)], args := [d] }
  | _ => none }
def fnExactScalarRow : OpenClaim := { program := "ytmajajhbhdgngaa", sum := "7da4d2956b1a644c491b00f677f6217d9debed2395af9218bd7da229b91a2fed", func := "loop.example/g00105/laws.FnExactScalar", spec := "fnExactScalar", apart := false }
def FnExactScalarSaid : Prop := fnExactScalarRow.holds Try.pinned (OpenSpec.ofChange fnExactScalarSpec)

/-- ITS FALSE NEIGHBOUR: 'it returns false'. Refute it at one input. -/
def fnExactScalarWrong : ChangeSpec := { name := "fnExactScalar", fn := fun _ => fun
  | [d] => { results := [.lit (.bool false)], args := [d] }
  | _ => none }
def FnExactScalarWrongFalsely : Prop := fnExactScalarRow.holds Try.pinned (OpenSpec.ofChange fnExactScalarWrong)

/-- 'laws.FnExactEdgeAt': WHATEVER THE INPUT: true; the input reads as it did. -/
def fnExactEdgeAtSpec : ChangeSpec := { name := "fnExactEdgeAt", fn := fun _ => fun
  | [d1, d2, d3] => { results := [.lit (.bool true)], args := [d1, d2, d3] }
  | _ => none }
def fnExactEdgeAtRow : OpenClaim := { program := "ytmajajhbhdgngaa", sum := "7da4d2956b1a644c491b00f677f6217d9debed2395af9218bd7da229b91a2fed", func := "loop.example/g00105/laws.FnExactEdgeAt", spec := "fnExactEdgeAt", apart := false }
def FnExactEdgeAtSaid : Prop := fnExactEdgeAtRow.holds Try.pinned (OpenSpec.ofChange fnExactEdgeAtSpec)

/-- ITS FALSE NEIGHBOUR: 'it returns false'. Refute it at one input. -/
def fnExactEdgeAtWrong : ChangeSpec := { name := "fnExactEdgeAt", fn := fun _ => fun
  | [d1, d2, d3] => { results := [.lit (.bool false)], args := [d1, d2, d3] }
  | _ => none }
def FnExactEdgeAtWrongFalsely : Prop := fnExactEdgeAtRow.holds Try.pinned (OpenSpec.ofChange fnExactEdgeAtWrong)

/-- 'laws.FnExactInduced': WHATEVER THE INPUT: true; the input reads as it did. -/
def fnExactInducedSpec : ChangeSpec := { name := "fnExactInduced", fn := fun _ => fun
  | [d1, d2] => { results := [.lit (.bool true)], args := [d1, d2] }
  | _ => none }
def fnExactInducedRow : OpenClaim := { program := "ytmajajhbhdgngaa", sum := "7da4d2956b1a644c491b00f677f6217d9debed2395af9218bd7da229b91a2fed", func := "loop.example/g00105/laws.FnExactInduced", spec := "fnExactInduced", apart := false }
def FnExactInducedSaid : Prop := fnExactInducedRow.holds Try.pinned (OpenSpec.ofChange fnExactInducedSpec)

/-- ITS FALSE NEIGHBOUR: 'it returns false'. Refute it at one input. -/
def fnExactInducedWrong : ChangeSpec := { name := "fnExactInduced", fn := fun _ => fun
  | [d1, d2] => { results := [.lit (.bool false)], args := [d1, d2] }
  | _ => none }
def FnExactInducedWrongFalsely : Prop := fnExactInducedRow.holds Try.pinned (OpenSpec.ofChange fnExactInducedWrong)

/-- 'laws.FnInduced': WHATEVER THE INPUT: true; the input reads as it did. -/
def fnInducedSpec : ChangeSpec := { name := "fnInduced", fn := fun _ => fun
  | [d] => { results := [.lit (.bool true)], args := [d] }
  | _ => none }
def fnInducedRow : OpenClaim := { program := "ytmajajhbhdgngaa", sum := "7da4d2956b1a644c491b00f677f6217d9debed2395af9218bd7da229b91a2fed", func := "loop.example/g00105/laws.FnInduced", spec := "fnInduced", apart := false }
def FnInducedSaid : Prop := fnInducedRow.holds Try.pinned (OpenSpec.ofChange fnInducedSpec)

/-- ITS FALSE NEIGHBOUR: 'it returns false'. Refute it at one input. -/
def fnInducedWrong : ChangeSpec := { name := "fnInduced", fn := fun _ => fun
  | [d] => { results := [.lit (.bool false)], args := [d] }
  | _ => none }
def FnInducedWrongFalsely : Prop := fnInducedRow.holds Try.pinned (OpenSpec.ofChange fnInducedWrong)

/- THE SECOND FORM. 'bulk': how many values and letters a reading holds, each counted each time it is reached (what is shared counts as often as it is met; a slice's spare places count too). A statement '..UptoSaid' is the law's where the arguments, and the package variables that the reading takes, are together of bulk at most 1048576: NARROWER than '..Said'. Prove '..Said' where nothing that the law and all that it calls make is longer than what came in: it says more and counts as full. Else prove '..UptoSaid'. A law counts once. -/
mutual
def uptoBulk {H : Type} : DataW H → Nat
  | .lit (.string bytes) => bytes.length + 1
  | .lit _ => 1
  | .nil => 1
  | .ptr d => uptoBulk d + 1
  | .slice elems spare => uptoBulkAll elems + uptoBulkAll spare + 1
  | .agg parts => uptoBulkAll parts + 1
  | .iface _ d => uptoBulk d + 1
  | .map entries => uptoBulkEntries entries + 1
  | .held _ => 1
def uptoBulkAll {H : Type} : List (DataW H) → Nat
  | [] => 0
  | d :: r => uptoBulk d + uptoBulkAll r
def uptoBulkEntries {H : Type} : List (Lit × DataW H) → Nat
  | [] => 0
  | x :: r => uptoBulkEntry x + uptoBulkEntries r
def uptoBulkEntry {H : Type} : Lit × DataW H → Nat
  | (.string bytes, d) => bytes.length + uptoBulk d + 1
  | (_, d) => uptoBulk d + 1
 end
def uptoSmall : (H : Type) → List (DataW H) → Bool := fun _ ds => decide (uptoBulkAll ds ≤ 1048576)
def OpenSpec.upto (s : _root_.Go.ChangeSpec) : _root_.Go.OpenSpec := { _root_.Go.OpenSpec.ofChange s with cond := some uptoSmall }

/-- 'laws.FnExactGraphOk', WHERE WHAT IT READS IS OF BULK AT MOST 1048576: true; the input reads as it did. -/
def fnExactGraphOkUptoRow : OpenClaim := { program := "ytmajajhbhdgngaa", sum := "7da4d2956b1a644c491b00f677f6217d9debed2395af9218bd7da229b91a2fed", func := "loop.example/g00105/laws.FnExactGraphOk", spec := "fnExactGraphOk", apart := false, narrowed := true }
def FnExactGraphOkUptoSaid : Prop := fnExactGraphOkUptoRow.holds Try.pinned (OpenSpec.upto fnExactGraphOkSpec)

/-- 'laws.FnExactScalar', WHERE WHAT IT READS IS OF BULK AT MOST 1048576: true; the input reads as it did. -/
def fnExactScalarUptoRow : OpenClaim := { program := "ytmajajhbhdgngaa", sum := "7da4d2956b1a644c491b00f677f6217d9debed2395af9218bd7da229b91a2fed", func := "loop.example/g00105/laws.FnExactScalar", spec := "fnExactScalar", apart := false, narrowed := true }
def FnExactScalarUptoSaid : Prop := fnExactScalarUptoRow.holds Try.pinned (OpenSpec.upto fnExactScalarSpec)

/-- 'laws.FnExactEdgeAt', WHERE WHAT IT READS IS OF BULK AT MOST 1048576: true; the input reads as it did. -/
def fnExactEdgeAtUptoRow : OpenClaim := { program := "ytmajajhbhdgngaa", sum := "7da4d2956b1a644c491b00f677f6217d9debed2395af9218bd7da229b91a2fed", func := "loop.example/g00105/laws.FnExactEdgeAt", spec := "fnExactEdgeAt", apart := false, narrowed := true }
def FnExactEdgeAtUptoSaid : Prop := fnExactEdgeAtUptoRow.holds Try.pinned (OpenSpec.upto fnExactEdgeAtSpec)

/-- 'laws.FnExactInduced', WHERE WHAT IT READS IS OF BULK AT MOST 1048576: true; the input reads as it did. -/
def fnExactInducedUptoRow : OpenClaim := { program := "ytmajajhbhdgngaa", sum := "7da4d2956b1a644c491b00f677f6217d9debed2395af9218bd7da229b91a2fed", func := "loop.example/g00105/laws.FnExactInduced", spec := "fnExactInduced", apart := false, narrowed := true }
def FnExactInducedUptoSaid : Prop := fnExactInducedUptoRow.holds Try.pinned (OpenSpec.upto fnExactInducedSpec)

/-- 'laws.FnInduced', WHERE WHAT IT READS IS OF BULK AT MOST 1048576: true; the input reads as it did. -/
def fnInducedUptoRow : OpenClaim := { program := "ytmajajhbhdgngaa", sum := "7da4d2956b1a644c491b00f677f6217d9debed2395af9218bd7da229b91a2fed", func := "loop.example/g00105/laws.FnInduced", spec := "fnInduced", apart := false, narrowed := true }
def FnInducedUptoSaid : Prop := fnInducedUptoRow.holds Try.pinned (OpenSpec.upto fnInducedSpec)

end Rows
end Go.Proofs.Ytmajajhbhdgngaa
