/-
  No cell of these rows narrows 'for every input' (looked for: loops, veiled, ifaces, maps, wideKeys, modest, calm, conditions, laid).
  DERIVED. THE GIVEN ROWS OF THIS SEAT. 4 by the template 'for every input the law returns true; each argument reads behind the call as it read before'; 0 by the template 'total and deterministic' (their statements: YtnflilaldamddaaTotals.lean).
  GIVEN WITH THE SEED: the statements are not yours to turn. If you find one false, say at which input.
  Laid BY PROGRAM, IN A SANDBOX (cutbox-rows.mjs): the forced cells as the released guide's own fill.sh prints them over the translation 7bd0e2569c86090f… (all of the seat's roots in one cut). By AI agents, Wed Nov 11 2026. No macro, syntax, notation, axiom, sorry.
-/
import Derived.Test.YtnflilaldamddaaChecked
import GoSem.Claim
import GoSem.ClaimJoined
import GoSem.ClaimMapViews
import Derived.JoinedTies
import Derived.KernelRfl
namespace Go.Proofs.Ytnflilaldamddaa
/- THE CELL 'sum', in the pinned program and in every row, IS THE sha256 OF THE DUMP (.gsa) THAT YtnflilaldamddaaProg.lean LOADS. Nothing in Lean hashes anything: it is a label: what it is worth is what the hold of that sum in a sandbox is worth. -/
noncomputable def Try.pinned : Pinned := { name := "ytnflilaldamddaa", sum := "7bd0e2569c86090ff4bec059c35fb1436f22facfb7007f43370ae2722225b789", checked := Try.checked }
namespace Rows
def none {H : Type} : Left H := { results := [], args := [] }

/-- 'laws.FnRoots': WHATEVER THE INPUT: true; the input reads as it did. -/
def fnRootsSpec : ChangeSpec := { name := "fnRoots", fn := fun _ => fun
  | [d] => { results := [.lit (.bool true)], args := [d] }
  | _ => none }
def fnRootsRow : OpenClaim := { program := "ytnflilaldamddaa", sum := "7bd0e2569c86090ff4bec059c35fb1436f22facfb7007f43370ae2722225b789", func := "loop.example/g00105/laws.FnRoots", spec := "fnRoots", apart := false }
def FnRootsSaid : Prop := fnRootsRow.holds Try.pinned (OpenSpec.ofChange fnRootsSpec)

/-- ITS FALSE NEIGHBOUR: 'it returns false'. Refute it at one input. -/
def fnRootsWrong : ChangeSpec := { name := "fnRoots", fn := fun _ => fun
  | [d] => { results := [.lit (.bool false)], args := [d] }
  | _ => none }
def FnRootsWrongFalsely : Prop := fnRootsRow.holds Try.pinned (OpenSpec.ofChange fnRootsWrong)

/-- 'laws.FnExactRootText': WHATEVER THE INPUT: true; the input reads as it did. -/
def fnExactRootTextSpec : ChangeSpec := { name := "fnExactRootText", fn := fun _ => fun
  | [d] => { results := [.lit (.bool true)], args := [d] }
  | _ => none }
def fnExactRootTextRow : OpenClaim := { program := "ytnflilaldamddaa", sum := "7bd0e2569c86090ff4bec059c35fb1436f22facfb7007f43370ae2722225b789", func := "loop.example/g00105/laws.FnExactRootText", spec := "fnExactRootText", apart := false }
def FnExactRootTextSaid : Prop := fnExactRootTextRow.holds Try.pinned (OpenSpec.ofChange fnExactRootTextSpec)

/-- ITS FALSE NEIGHBOUR: 'it returns false'. Refute it at one input. -/
def fnExactRootTextWrong : ChangeSpec := { name := "fnExactRootText", fn := fun _ => fun
  | [d] => { results := [.lit (.bool false)], args := [d] }
  | _ => none }
def FnExactRootTextWrongFalsely : Prop := fnExactRootTextRow.holds Try.pinned (OpenSpec.ofChange fnExactRootTextWrong)

/-- 'laws.FnExactReadRoot': WHATEVER THE INPUT: true; the input reads as it did. -/
def fnExactReadRootSpec : ChangeSpec := { name := "fnExactReadRoot", fn := fun _ => fun
  | [d] => { results := [.lit (.bool true)], args := [d] }
  | _ => none }
def fnExactReadRootRow : OpenClaim := { program := "ytnflilaldamddaa", sum := "7bd0e2569c86090ff4bec059c35fb1436f22facfb7007f43370ae2722225b789", func := "loop.example/g00105/laws.FnExactReadRoot", spec := "fnExactReadRoot", apart := false }
def FnExactReadRootSaid : Prop := fnExactReadRootRow.holds Try.pinned (OpenSpec.ofChange fnExactReadRootSpec)

/-- ITS FALSE NEIGHBOUR: 'it returns false'. Refute it at one input. -/
def fnExactReadRootWrong : ChangeSpec := { name := "fnExactReadRoot", fn := fun _ => fun
  | [d] => { results := [.lit (.bool false)], args := [d] }
  | _ => none }
def FnExactReadRootWrongFalsely : Prop := fnExactReadRootRow.holds Try.pinned (OpenSpec.ofChange fnExactReadRootWrong)

/-- 'laws.FnExactLastRoot': WHATEVER THE INPUT: true; the input reads as it did. -/
def fnExactLastRootSpec : ChangeSpec := { name := "fnExactLastRoot", fn := fun _ => fun
  | [d] => { results := [.lit (.bool true)], args := [d] }
  | _ => none }
def fnExactLastRootRow : OpenClaim := { program := "ytnflilaldamddaa", sum := "7bd0e2569c86090ff4bec059c35fb1436f22facfb7007f43370ae2722225b789", func := "loop.example/g00105/laws.FnExactLastRoot", spec := "fnExactLastRoot", apart := false }
def FnExactLastRootSaid : Prop := fnExactLastRootRow.holds Try.pinned (OpenSpec.ofChange fnExactLastRootSpec)

/-- ITS FALSE NEIGHBOUR: 'it returns false'. Refute it at one input. -/
def fnExactLastRootWrong : ChangeSpec := { name := "fnExactLastRoot", fn := fun _ => fun
  | [d] => { results := [.lit (.bool false)], args := [d] }
  | _ => none }
def FnExactLastRootWrongFalsely : Prop := fnExactLastRootRow.holds Try.pinned (OpenSpec.ofChange fnExactLastRootWrong)

/- THE SECOND FORM. 'bulk': how many values and letters a reading holds, each counted each time it is reached (what is shared counts as often as it is met; a slice's spare places count too). A statement '..UptoSaid' is the law's where the arguments, and the package variables that the reading takes, are together of bulk at most 1048576: NARROWER than '..Said'. Prove '..Said' where nothing that the law and all that it calls make is longer than what came in: it says more and counts as full. Else prove '..UptoSaid'. A law counts once. -/
mutual
def uptoBulk {H : Type} : DataW H → Nat
  | .lit (.string bytes) => bytes.length + 1
  | .lit _ => 1
  | .nil => 1
  | .ptr d => uptoBulk d + 1
  | .slice elems spare => uptoBulkAll elems + uptoBulkAll spare + 1
  | .agg parts => uptoBulkAll parts + 1
  | .iface _ d => uptoBulk d + 1
  | .map entries => uptoBulkEntries entries + 1
  | .held _ => 1
def uptoBulkAll {H : Type} : List (DataW H) → Nat
  | [] => 0
  | d :: r => uptoBulk d + uptoBulkAll r
def uptoBulkEntries {H : Type} : List (Lit × DataW H) → Nat
  | [] => 0
  | x :: r => uptoBulkEntry x + uptoBulkEntries r
def uptoBulkEntry {H : Type} : Lit × DataW H → Nat
  | (.string bytes, d) => bytes.length + uptoBulk d + 1
  | (_, d) => uptoBulk d + 1
 end
def uptoSmall : (H : Type) → List (DataW H) → Bool := fun _ ds => decide (uptoBulkAll ds ≤ 1048576)
def OpenSpec.upto (s : _root_.Go.ChangeSpec) : _root_.Go.OpenSpec := { _root_.Go.OpenSpec.ofChange s with cond := some uptoSmall }

/-- 'laws.FnRoots', WHERE WHAT IT READS IS OF BULK AT MOST 1048576: true; the input reads as it did. -/
def fnRootsUptoRow : OpenClaim := { program := "ytnflilaldamddaa", sum := "7bd0e2569c86090ff4bec059c35fb1436f22facfb7007f43370ae2722225b789", func := "loop.example/g00105/laws.FnRoots", spec := "fnRoots", apart := false, narrowed := true }
def FnRootsUptoSaid : Prop := fnRootsUptoRow.holds Try.pinned (OpenSpec.upto fnRootsSpec)

/-- 'laws.FnExactRootText', WHERE WHAT IT READS IS OF BULK AT MOST 1048576: true; the input reads as it did. -/
def fnExactRootTextUptoRow : OpenClaim := { program := "ytnflilaldamddaa", sum := "7bd0e2569c86090ff4bec059c35fb1436f22facfb7007f43370ae2722225b789", func := "loop.example/g00105/laws.FnExactRootText", spec := "fnExactRootText", apart := false, narrowed := true }
def FnExactRootTextUptoSaid : Prop := fnExactRootTextUptoRow.holds Try.pinned (OpenSpec.upto fnExactRootTextSpec)

/-- 'laws.FnExactReadRoot', WHERE WHAT IT READS IS OF BULK AT MOST 1048576: true; the input reads as it did. -/
def fnExactReadRootUptoRow : OpenClaim := { program := "ytnflilaldamddaa", sum := "7bd0e2569c86090ff4bec059c35fb1436f22facfb7007f43370ae2722225b789", func := "loop.example/g00105/laws.FnExactReadRoot", spec := "fnExactReadRoot", apart := false, narrowed := true }
def FnExactReadRootUptoSaid : Prop := fnExactReadRootUptoRow.holds Try.pinned (OpenSpec.upto fnExactReadRootSpec)

/-- 'laws.FnExactLastRoot', WHERE WHAT IT READS IS OF BULK AT MOST 1048576: true; the input reads as it did. -/
def fnExactLastRootUptoRow : OpenClaim := { program := "ytnflilaldamddaa", sum := "7bd0e2569c86090ff4bec059c35fb1436f22facfb7007f43370ae2722225b789", func := "loop.example/g00105/laws.FnExactLastRoot", spec := "fnExactLastRoot", apart := false, narrowed := true }
def FnExactLastRootUptoSaid : Prop := fnExactLastRootUptoRow.holds Try.pinned (OpenSpec.upto fnExactLastRootSpec)

end Rows
end Go.Proofs.Ytnflilaldamddaa
