/-
  No cell of these rows narrows 'for every input' (looked for: loops, veiled, ifaces, maps, wideKeys, modest, calm, conditions, laid).
  DERIVED. THE GIVEN ROWS OF THIS SEAT. 5 by the template 'for every input the law returns true; each argument reads behind the call as it read before'; 0 by the template 'total and deterministic' (their statements: YtajajfmaekdphaaTotals.lean).
  GIVEN WITH THE SEED: the statements are not yours to turn. If you find one false, say at which input.
  Laid BY PROGRAM, IN A SANDBOX (cutbox-rows.mjs): the forced cells as the released guide's own fill.sh prints them over the translation 2f404ac6def3ae3b… (all of the seat's roots in one cut). By AI agents, Wed Nov 11 2026. No macro, syntax, notation, axiom, sorry.
-/
import Derived.Test.YtajajfmaekdphaaChecked
import GoSem.Claim
import GoSem.ClaimJoined
import GoSem.ClaimMapViews
import Derived.JoinedTies
import Derived.KernelRfl
namespace Go.Proofs.Ytajajfmaekdphaa
/- THE CELL 'sum', in the pinned program and in every row, IS THE sha256 OF THE DUMP (.gsa) THAT YtajajfmaekdphaaProg.lean LOADS. Nothing in Lean hashes anything: it is a label: what it is worth is what the hold of that sum in a sandbox is worth. -/
noncomputable def Try.pinned : Pinned := { name := "ytajajfmaekdphaa", sum := "2f404ac6def3ae3b28388765f65bc211031c4c96622960326735eb238b7c5db3", checked := Try.checked }
namespace Rows
def none {H : Type} : Left H := { results := [], args := [] }

/-- 'laws.FnPages': WHATEVER THE INPUT: true; the input reads as it did. -/
def fnPagesSpec : ChangeSpec := { name := "fnPages", fn := fun _ => fun
  | [d] => { results := [.lit (.bool true)], args := [d] }
  | _ => none }
def fnPagesRow : OpenClaim := { program := "ytajajfmaekdphaa", sum := "2f404ac6def3ae3b28388765f65bc211031c4c96622960326735eb238b7c5db3", func := "loop.example/g00105/laws.FnPages", spec := "fnPages", unfollowed := true, recurses := true, apart := false }
def FnPagesSaid : Prop := fnPagesRow.holds Try.pinned (OpenSpec.ofChange fnPagesSpec)

/-- ITS FALSE NEIGHBOUR: 'it returns false'. Refute it at one input. -/
def fnPagesWrong : ChangeSpec := { name := "fnPages", fn := fun _ => fun
  | [d] => { results := [.lit (.bool false)], args := [d] }
  | _ => none }
def FnPagesWrongFalsely : Prop := fnPagesRow.holds Try.pinned (OpenSpec.ofChange fnPagesWrong)

/-- 'laws.FnExactPageText': WHATEVER THE INPUT: true; the input reads as it did. -/
def fnExactPageTextSpec : ChangeSpec := { name := "fnExactPageText", fn := fun _ => fun
  | [d] => { results := [.lit (.bool true)], args := [d] }
  | _ => none }
def fnExactPageTextRow : OpenClaim := { program := "ytajajfmaekdphaa", sum := "2f404ac6def3ae3b28388765f65bc211031c4c96622960326735eb238b7c5db3", func := "loop.example/g00105/laws.FnExactPageText", spec := "fnExactPageText", unfollowed := true, recurses := true, apart := false }
def FnExactPageTextSaid : Prop := fnExactPageTextRow.holds Try.pinned (OpenSpec.ofChange fnExactPageTextSpec)

/-- ITS FALSE NEIGHBOUR: 'it returns false'. Refute it at one input. -/
def fnExactPageTextWrong : ChangeSpec := { name := "fnExactPageText", fn := fun _ => fun
  | [d] => { results := [.lit (.bool false)], args := [d] }
  | _ => none }
def FnExactPageTextWrongFalsely : Prop := fnExactPageTextRow.holds Try.pinned (OpenSpec.ofChange fnExactPageTextWrong)

/-- 'laws.FnExactReadPage': WHATEVER THE INPUT: true; the input reads as it did. -/
def fnExactReadPageSpec : ChangeSpec := { name := "fnExactReadPage", fn := fun _ => fun
  | [d] => { results := [.lit (.bool true)], args := [d] }
  | _ => none }
def fnExactReadPageRow : OpenClaim := { program := "ytajajfmaekdphaa", sum := "2f404ac6def3ae3b28388765f65bc211031c4c96622960326735eb238b7c5db3", func := "loop.example/g00105/laws.FnExactReadPage", spec := "fnExactReadPage", unfollowed := true, recurses := true, apart := false }
def FnExactReadPageSaid : Prop := fnExactReadPageRow.holds Try.pinned (OpenSpec.ofChange fnExactReadPageSpec)

/-- ITS FALSE NEIGHBOUR: 'it returns false'. Refute it at one input. -/
def fnExactReadPageWrong : ChangeSpec := { name := "fnExactReadPage", fn := fun _ => fun
  | [d] => { results := [.lit (.bool false)], args := [d] }
  | _ => none }
def FnExactReadPageWrongFalsely : Prop := fnExactReadPageRow.holds Try.pinned (OpenSpec.ofChange fnExactReadPageWrong)

/-- 'laws.FnExactItemSize': WHATEVER THE INPUT: true; the input reads as it did. -/
def fnExactItemSizeSpec : ChangeSpec := { name := "fnExactItemSize", fn := fun _ => fun
  | [d1, d2] => { results := [.lit (.bool true)], args := [d1, d2] }
  | _ => none }
def fnExactItemSizeRow : OpenClaim := { program := "ytajajfmaekdphaa", sum := "2f404ac6def3ae3b28388765f65bc211031c4c96622960326735eb238b7c5db3", func := "loop.example/g00105/laws.FnExactItemSize", spec := "fnExactItemSize", unfollowed := true, recurses := true, apart := false }
def FnExactItemSizeSaid : Prop := fnExactItemSizeRow.holds Try.pinned (OpenSpec.ofChange fnExactItemSizeSpec)

/-- ITS FALSE NEIGHBOUR: 'it returns false'. Refute it at one input. -/
def fnExactItemSizeWrong : ChangeSpec := { name := "fnExactItemSize", fn := fun _ => fun
  | [d1, d2] => { results := [.lit (.bool false)], args := [d1, d2] }
  | _ => none }
def FnExactItemSizeWrongFalsely : Prop := fnExactItemSizeRow.holds Try.pinned (OpenSpec.ofChange fnExactItemSizeWrong)

/-- 'laws.FnExactEndsPage': WHATEVER THE INPUT: true; the input reads as it did. -/
def fnExactEndsPageSpec : ChangeSpec := { name := "fnExactEndsPage", fn := fun _ => fun
  | [d] => { results := [.lit (.bool true)], args := [d] }
  | _ => none }
def fnExactEndsPageRow : OpenClaim := { program := "ytajajfmaekdphaa", sum := "2f404ac6def3ae3b28388765f65bc211031c4c96622960326735eb238b7c5db3", func := "loop.example/g00105/laws.FnExactEndsPage", spec := "fnExactEndsPage", apart := false }
def FnExactEndsPageSaid : Prop := fnExactEndsPageRow.holds Try.pinned (OpenSpec.ofChange fnExactEndsPageSpec)

/-- ITS FALSE NEIGHBOUR: 'it returns false'. Refute it at one input. -/
def fnExactEndsPageWrong : ChangeSpec := { name := "fnExactEndsPage", fn := fun _ => fun
  | [d] => { results := [.lit (.bool false)], args := [d] }
  | _ => none }
def FnExactEndsPageWrongFalsely : Prop := fnExactEndsPageRow.holds Try.pinned (OpenSpec.ofChange fnExactEndsPageWrong)

/- THE SECOND FORM. 'bulk': how many values and letters a reading holds, each counted each time it is reached (what is shared counts as often as it is met; a slice's spare places count too). A statement '..UptoSaid' is the law's where the arguments, and the package variables that the reading takes, are together of bulk at most 1048576: NARROWER than '..Said'. Prove '..Said' where nothing that the law and all that it calls make is longer than what came in: it says more and counts as full. Else prove '..UptoSaid'. A law counts once. -/
mutual
def uptoBulk {H : Type} : DataW H → Nat
  | .lit (.string bytes) => bytes.length + 1
  | .lit _ => 1
  | .nil => 1
  | .ptr d => uptoBulk d + 1
  | .slice elems spare => uptoBulkAll elems + uptoBulkAll spare + 1
  | .agg parts => uptoBulkAll parts + 1
  | .iface _ d => uptoBulk d + 1
  | .map entries => uptoBulkEntries entries + 1
  | .held _ => 1
def uptoBulkAll {H : Type} : List (DataW H) → Nat
  | [] => 0
  | d :: r => uptoBulk d + uptoBulkAll r
def uptoBulkEntries {H : Type} : List (Lit × DataW H) → Nat
  | [] => 0
  | x :: r => uptoBulkEntry x + uptoBulkEntries r
def uptoBulkEntry {H : Type} : Lit × DataW H → Nat
  | (.string bytes, d) => bytes.length + uptoBulk d + 1
  | (_, d) => uptoBulk d + 1
 end
def uptoSmall : (H : Type) → List (DataW H) → Bool := fun _ ds => decide (uptoBulkAll ds ≤ 1048576)
def OpenSpec.upto (s : _root_.Go.ChangeSpec) : _root_.Go.OpenSpec := { _root_.Go.OpenSpec.ofChange s with cond := some uptoSmall }

/-- 'laws.FnPages', WHERE WHAT IT READS IS OF BULK AT MOST 1048576: true; the input reads as it did. -/
def fnPagesUptoRow : OpenClaim := { program := "ytajajfmaekdphaa", sum := "2f404ac6def3ae3b28388765f65bc211031c4c96622960326735eb238b7c5db3", func := "loop.example/g00105/laws.FnPages", spec := "fnPages", unfollowed := true, recurses := true, apart := false, narrowed := true }
def FnPagesUptoSaid : Prop := fnPagesUptoRow.holds Try.pinned (OpenSpec.upto fnPagesSpec)

/-- 'laws.FnExactPageText', WHERE WHAT IT READS IS OF BULK AT MOST 1048576: true; the input reads as it did. -/
def fnExactPageTextUptoRow : OpenClaim := { program := "ytajajfmaekdphaa", sum := "2f404ac6def3ae3b28388765f65bc211031c4c96622960326735eb238b7c5db3", func := "loop.example/g00105/laws.FnExactPageText", spec := "fnExactPageText", unfollowed := true, recurses := true, apart := false, narrowed := true }
def FnExactPageTextUptoSaid : Prop := fnExactPageTextUptoRow.holds Try.pinned (OpenSpec.upto fnExactPageTextSpec)

/-- 'laws.FnExactReadPage', WHERE WHAT IT READS IS OF BULK AT MOST 1048576: true; the input reads as it did. -/
def fnExactReadPageUptoRow : OpenClaim := { program := "ytajajfmaekdphaa", sum := "2f404ac6def3ae3b28388765f65bc211031c4c96622960326735eb238b7c5db3", func := "loop.example/g00105/laws.FnExactReadPage", spec := "fnExactReadPage", unfollowed := true, recurses := true, apart := false, narrowed := true }
def FnExactReadPageUptoSaid : Prop := fnExactReadPageUptoRow.holds Try.pinned (OpenSpec.upto fnExactReadPageSpec)

/-- 'laws.FnExactItemSize', WHERE WHAT IT READS IS OF BULK AT MOST 1048576: true; the input reads as it did. -/
def fnExactItemSizeUptoRow : OpenClaim := { program := "ytajajfmaekdphaa", sum := "2f404ac6def3ae3b28388765f65bc211031c4c96622960326735eb238b7c5db3", func := "loop.example/g00105/laws.FnExactItemSize", spec := "fnExactItemSize", unfollowed := true, recurses := true, apart := false, narrowed := true }
def FnExactItemSizeUptoSaid : Prop := fnExactItemSizeUptoRow.holds Try.pinned (OpenSpec.upto fnExactItemSizeSpec)

/-- 'laws.FnExactEndsPage', WHERE WHAT IT READS IS OF BULK AT MOST 1048576: true; the input reads as it did. -/
def fnExactEndsPageUptoRow : OpenClaim := { program := "ytajajfmaekdphaa", sum := "2f404ac6def3ae3b28388765f65bc211031c4c96622960326735eb238b7c5db3", func := "loop.example/g00105/laws.FnExactEndsPage", spec := "fnExactEndsPage", apart := false, narrowed := true }
def FnExactEndsPageUptoSaid : Prop := fnExactEndsPageUptoRow.holds Try.pinned (OpenSpec.upto fnExactEndsPageSpec)

end Rows
end Go.Proofs.Ytajajfmaekdphaa
