/-
  No cell of these rows narrows 'for every input' (looked for: loops, veiled, ifaces, maps, wideKeys, modest, calm, conditions, laid).
  DERIVED. THE GIVEN ROWS OF THIS SEAT. 7 by the template 'for every input the law returns true; each argument reads behind the call as it read before'; 0 by the template 'total and deterministic' (their statements: YtejfknkcakeakaaTotals.lean).
  GIVEN WITH THE SEED: the statements are not yours to turn. If you find one false, say at which input.
  Laid BY PROGRAM, IN A SANDBOX (cutbox-rows.mjs): the forced cells as the released guide's own fill.sh prints them over the translation a514599e08683c46… (all of the seat's roots in one cut). By AI agents, Wed Nov 11 2026. No macro, syntax, notation, axiom, sorry.
-/
import Derived.Test.YtejfknkcakeakaaChecked
import GoSem.Claim
import GoSem.ClaimJoined
import GoSem.ClaimMapViews
import Derived.JoinedTies
import Derived.KernelRfl
namespace Go.Proofs.Ytejfknkcakeakaa
/- THE CELL 'sum', in the pinned program and in every row, IS THE sha256 OF THE DUMP (.gsa) THAT YtejfknkcakeakaaProg.lean LOADS. Nothing in Lean hashes anything: it is a label: what it is worth is what the hold of that sum in a sandbox is worth. -/
noncomputable def Try.pinned : Pinned := { name := "ytejfknkcakeakaa", sum := "a514599e08683c46320b623cd16861131fe9f7f607e89438ac55b6972478ec68", checked := Try.checked }
namespace Rows
def none {H : Type} : Left H := { results := [], args := [] }

/-- 'laws.FnExactNeighbours': WHATEVER THE INPUT: true; the input reads as it did. -/
def fnExactNeighboursSpec : ChangeSpec := { name := "fnExactNeighbours", fn := fun _ => fun
  | [d1, d2] => { results := [.lit (.bool true)], args := [d1, d2] }
  | _ => none }
def fnExactNeighboursRow : OpenClaim := { program := "ytejfknkcakeakaa", sum := "a514599e08683c46320b623cd16861131fe9f7f607e89438ac55b6972478ec68", func := "loop.example/g00105/laws.FnExactNeighbours", spec := "fnExactNeighbours", apart := false }
def FnExactNeighboursSaid : Prop := fnExactNeighboursRow.holds Try.pinned (OpenSpec.ofChange fnExactNeighboursSpec)

/-- ITS FALSE NEIGHBOUR: 'it returns false'. Refute it at one input. -/
def fnExactNeighboursWrong : ChangeSpec := { name := "fnExactNeighbours", fn := fun _ => fun
  | [d1, d2] => { results := [.lit (.bool false)], args := [d1, d2] }
  | _ => none }
def FnExactNeighboursWrongFalsely : Prop := fnExactNeighboursRow.holds Try.pinned (OpenSpec.ofChange fnExactNeighboursWrong)

/-- 'laws.FnExactPiecesOf': WHATEVER THE INPUT: true; the input reads as it did. -/
def fnExactPiecesOfSpec : ChangeSpec := { name := "fnExactPiecesOf", fn := fun _ => fun
  | [d1, d2] => { results := [.lit (.bool true)], args := [d1, d2] }
  | _ => none }
def fnExactPiecesOfRow : OpenClaim := { program := "ytejfknkcakeakaa", sum := "a514599e08683c46320b623cd16861131fe9f7f607e89438ac55b6972478ec68", func := "loop.example/g00105/laws.FnExactPiecesOf", spec := "fnExactPiecesOf", recurses := true, apart := false }
def FnExactPiecesOfSaid : Prop := fnExactPiecesOfRow.holds Try.pinned (OpenSpec.ofChange fnExactPiecesOfSpec)

/-- ITS FALSE NEIGHBOUR: 'it returns false'. Refute it at one input. -/
def fnExactPiecesOfWrong : ChangeSpec := { name := "fnExactPiecesOf", fn := fun _ => fun
  | [d1, d2] => { results := [.lit (.bool false)], args := [d1, d2] }
  | _ => none }
def FnExactPiecesOfWrongFalsely : Prop := fnExactPiecesOfRow.holds Try.pinned (OpenSpec.ofChange fnExactPiecesOfWrong)

/-- 'laws.FnExactOddParts': WHATEVER THE INPUT: true; the input reads as it did. -/
def fnExactOddPartsSpec : ChangeSpec := { name := "fnExactOddParts", fn := fun _ => fun
  | [d1, d2] => { results := [.lit (.bool true)], args := [d1, d2] }
  | _ => none }
def fnExactOddPartsRow : OpenClaim := { program := "ytejfknkcakeakaa", sum := "a514599e08683c46320b623cd16861131fe9f7f607e89438ac55b6972478ec68", func := "loop.example/g00105/laws.FnExactOddParts", spec := "fnExactOddParts", recurses := true, apart := false }
def FnExactOddPartsSaid : Prop := fnExactOddPartsRow.holds Try.pinned (OpenSpec.ofChange fnExactOddPartsSpec)

/-- ITS FALSE NEIGHBOUR: 'it returns false'. Refute it at one input. -/
def fnExactOddPartsWrong : ChangeSpec := { name := "fnExactOddParts", fn := fun _ => fun
  | [d1, d2] => { results := [.lit (.bool false)], args := [d1, d2] }
  | _ => none }
def FnExactOddPartsWrongFalsely : Prop := fnExactOddPartsRow.holds Try.pinned (OpenSpec.ofChange fnExactOddPartsWrong)

/-- 'laws.FnExactMostCouples': WHATEVER THE INPUT: true; the input reads as it did. -/
def fnExactMostCouplesSpec : ChangeSpec := { name := "fnExactMostCouples", fn := fun _ => fun
  | [d] => { results := [.lit (.bool true)], args := [d] }
  | _ => none }
def fnExactMostCouplesRow : OpenClaim := { program := "ytejfknkcakeakaa", sum := "a514599e08683c46320b623cd16861131fe9f7f607e89438ac55b6972478ec68", func := "loop.example/g00105/laws.FnExactMostCouples", spec := "fnExactMostCouples", unfollowed := true, recurses := true, apart := false }
def FnExactMostCouplesSaid : Prop := fnExactMostCouplesRow.holds Try.pinned (OpenSpec.ofChange fnExactMostCouplesSpec)

/-- ITS FALSE NEIGHBOUR: 'it returns false'. Refute it at one input. -/
def fnExactMostCouplesWrong : ChangeSpec := { name := "fnExactMostCouples", fn := fun _ => fun
  | [d] => { results := [.lit (.bool false)], args := [d] }
  | _ => none }
def FnExactMostCouplesWrongFalsely : Prop := fnExactMostCouplesRow.holds Try.pinned (OpenSpec.ofChange fnExactMostCouplesWrong)

/-- 'laws.FnExactBlocks': WHATEVER THE INPUT: true; the input reads as it did. -/
def fnExactBlocksSpec : ChangeSpec := { name := "fnExactBlocks", fn := fun _ => fun
  | [d] => { results := [.lit (.bool true)], args := [d] }
  | _ => none }
def fnExactBlocksRow : OpenClaim := { program := "ytejfknkcakeakaa", sum := "a514599e08683c46320b623cd16861131fe9f7f607e89438ac55b6972478ec68", func := "loop.example/g00105/laws.FnExactBlocks", spec := "fnExactBlocks", recurses := true, apart := false }
def FnExactBlocksSaid : Prop := fnExactBlocksRow.holds Try.pinned (OpenSpec.ofChange fnExactBlocksSpec)

/-- ITS FALSE NEIGHBOUR: 'it returns false'. Refute it at one input. -/
def fnExactBlocksWrong : ChangeSpec := { name := "fnExactBlocks", fn := fun _ => fun
  | [d] => { results := [.lit (.bool false)], args := [d] }
  | _ => none }
def FnExactBlocksWrongFalsely : Prop := fnExactBlocksRow.holds Try.pinned (OpenSpec.ofChange fnExactBlocksWrong)

/-- 'laws.FnExactLonely': WHATEVER THE INPUT: true; the input reads as it did. -/
def fnExactLonelySpec : ChangeSpec := { name := "fnExactLonely", fn := fun _ => fun
  | [d1, d2] => { results := [.lit (.bool true)], args := [d1, d2] }
  | _ => none }
def fnExactLonelyRow : OpenClaim := { program := "ytejfknkcakeakaa", sum := "a514599e08683c46320b623cd16861131fe9f7f607e89438ac55b6972478ec68", func := "loop.example/g00105/laws.FnExactLonely", spec := "fnExactLonely", apart := false }
def FnExactLonelySaid : Prop := fnExactLonelyRow.holds Try.pinned (OpenSpec.ofChange fnExactLonelySpec)

/-- ITS FALSE NEIGHBOUR: 'it returns false'. Refute it at one input. -/
def fnExactLonelyWrong : ChangeSpec := { name := "fnExactLonely", fn := fun _ => fun
  | [d1, d2] => { results := [.lit (.bool false)], args := [d1, d2] }
  | _ => none }
def FnExactLonelyWrongFalsely : Prop := fnExactLonelyRow.holds Try.pinned (OpenSpec.ofChange fnExactLonelyWrong)

/-- 'laws.FnExactSwapped': WHATEVER THE INPUT: true; the input reads as it did. -/
def fnExactSwappedSpec : ChangeSpec := { name := "fnExactSwapped", fn := fun _ => fun
  | [d1, d2, d3] => { results := [.lit (.bool true)], args := [d1, d2, d3] }
  | _ => none }
def fnExactSwappedRow : OpenClaim := { program := "ytejfknkcakeakaa", sum := "a514599e08683c46320b623cd16861131fe9f7f607e89438ac55b6972478ec68", func := "loop.example/g00105/laws.FnExactSwapped", spec := "fnExactSwapped", recurses := true, apart := false }
def FnExactSwappedSaid : Prop := fnExactSwappedRow.holds Try.pinned (OpenSpec.ofChange fnExactSwappedSpec)

/-- ITS FALSE NEIGHBOUR: 'it returns false'. Refute it at one input. -/
def fnExactSwappedWrong : ChangeSpec := { name := "fnExactSwapped", fn := fun _ => fun
  | [d1, d2, d3] => { results := [.lit (.bool false)], args := [d1, d2, d3] }
  | _ => none }
def FnExactSwappedWrongFalsely : Prop := fnExactSwappedRow.holds Try.pinned (OpenSpec.ofChange fnExactSwappedWrong)

/- THE SECOND FORM. 'bulk': how many values and letters a reading holds, each counted each time it is reached (what is shared counts as often as it is met; a slice's spare places count too). A statement '..UptoSaid' is the law's where the arguments, and the package variables that the reading takes, are together of bulk at most 1048576: NARROWER than '..Said'. Prove '..Said' where nothing that the law and all that it calls make is longer than what came in: it says more and counts as full. Else prove '..UptoSaid'. A law counts once. -/
mutual
def uptoBulk {H : Type} : DataW H → Nat
  | .lit (.string bytes) => bytes.length + 1
  | .lit _ => 1
  | .nil => 1
  | .ptr d => uptoBulk d + 1
  | .slice elems spare => uptoBulkAll elems + uptoBulkAll spare + 1
  | .agg parts => uptoBulkAll parts + 1
  | .iface _ d => uptoBulk d + 1
  | .map entries => uptoBulkEntries entries + 1
  | .held _ => 1
def uptoBulkAll {H : Type} : List (DataW H) → Nat
  | [] => 0
  | d :: r => uptoBulk d + uptoBulkAll r
def uptoBulkEntries {H : Type} : List (Lit × DataW H) → Nat
  | [] => 0
  | x :: r => uptoBulkEntry x + uptoBulkEntries r
def uptoBulkEntry {H : Type} : Lit × DataW H → Nat
  | (.string bytes, d) => bytes.length + uptoBulk d + 1
  | (_, d) => uptoBulk d + 1
 end
def uptoSmall : (H : Type) → List (DataW H) → Bool := fun _ ds => decide (uptoBulkAll ds ≤ 1048576)
def OpenSpec.upto (s : _root_.Go.ChangeSpec) : _root_.Go.OpenSpec := { _root_.Go.OpenSpec.ofChange s with cond := some uptoSmall }

/-- 'laws.FnExactNeighbours', WHERE WHAT IT READS IS OF BULK AT MOST 1048576: true; the input reads as it did. -/
def fnExactNeighboursUptoRow : OpenClaim := { program := "ytejfknkcakeakaa", sum := "a514599e08683c46320b623cd16861131fe9f7f607e89438ac55b6972478ec68", func := "loop.example/g00105/laws.FnExactNeighbours", spec := "fnExactNeighbours", apart := false, narrowed := true }
def FnExactNeighboursUptoSaid : Prop := fnExactNeighboursUptoRow.holds Try.pinned (OpenSpec.upto fnExactNeighboursSpec)

/-- 'laws.FnExactPiecesOf', WHERE WHAT IT READS IS OF BULK AT MOST 1048576: true; the input reads as it did. -/
def fnExactPiecesOfUptoRow : OpenClaim := { program := "ytejfknkcakeakaa", sum := "a514599e08683c46320b623cd16861131fe9f7f607e89438ac55b6972478ec68", func := "loop.example/g00105/laws.FnExactPiecesOf", spec := "fnExactPiecesOf", recurses := true, apart := false, narrowed := true }
def FnExactPiecesOfUptoSaid : Prop := fnExactPiecesOfUptoRow.holds Try.pinned (OpenSpec.upto fnExactPiecesOfSpec)

/-- 'laws.FnExactOddParts', WHERE WHAT IT READS IS OF BULK AT MOST 1048576: true; the input reads as it did. -/
def fnExactOddPartsUptoRow : OpenClaim := { program := "ytejfknkcakeakaa", sum := "a514599e08683c46320b623cd16861131fe9f7f607e89438ac55b6972478ec68", func := "loop.example/g00105/laws.FnExactOddParts", spec := "fnExactOddParts", recurses := true, apart := false, narrowed := true }
def FnExactOddPartsUptoSaid : Prop := fnExactOddPartsUptoRow.holds Try.pinned (OpenSpec.upto fnExactOddPartsSpec)

/-- 'laws.FnExactMostCouples', WHERE WHAT IT READS IS OF BULK AT MOST 1048576: true; the input reads as it did. -/
def fnExactMostCouplesUptoRow : OpenClaim := { program := "ytejfknkcakeakaa", sum := "a514599e08683c46320b623cd16861131fe9f7f607e89438ac55b6972478ec68", func := "loop.example/g00105/laws.FnExactMostCouples", spec := "fnExactMostCouples", unfollowed := true, recurses := true, apart := false, narrowed := true }
def FnExactMostCouplesUptoSaid : Prop := fnExactMostCouplesUptoRow.holds Try.pinned (OpenSpec.upto fnExactMostCouplesSpec)

/-- 'laws.FnExactBlocks', WHERE WHAT IT READS IS OF BULK AT MOST 1048576: true; the input reads as it did. -/
def fnExactBlocksUptoRow : OpenClaim := { program := "ytejfknkcakeakaa", sum := "a514599e08683c46320b623cd16861131fe9f7f607e89438ac55b6972478ec68", func := "loop.example/g00105/laws.FnExactBlocks", spec := "fnExactBlocks", recurses := true, apart := false, narrowed := true }
def FnExactBlocksUptoSaid : Prop := fnExactBlocksUptoRow.holds Try.pinned (OpenSpec.upto fnExactBlocksSpec)

/-- 'laws.FnExactLonely', WHERE WHAT IT READS IS OF BULK AT MOST 1048576: true; the input reads as it did. -/
def fnExactLonelyUptoRow : OpenClaim := { program := "ytejfknkcakeakaa", sum := "a514599e08683c46320b623cd16861131fe9f7f607e89438ac55b6972478ec68", func := "loop.example/g00105/laws.FnExactLonely", spec := "fnExactLonely", apart := false, narrowed := true }
def FnExactLonelyUptoSaid : Prop := fnExactLonelyUptoRow.holds Try.pinned (OpenSpec.upto fnExactLonelySpec)

/-- 'laws.FnExactSwapped', WHERE WHAT IT READS IS OF BULK AT MOST 1048576: true; the input reads as it did. -/
def fnExactSwappedUptoRow : OpenClaim := { program := "ytejfknkcakeakaa", sum := "a514599e08683c46320b623cd16861131fe9f7f607e89438ac55b6972478ec68", func := "loop.example/g00105/laws.FnExactSwapped", spec := "fnExactSwapped", recurses := true, apart := false, narrowed := true }
def FnExactSwappedUptoSaid : Prop := fnExactSwappedUptoRow.holds Try.pinned (OpenSpec.upto fnExactSwappedSpec)

end Rows
end Go.Proofs.Ytejfknkcakeakaa
