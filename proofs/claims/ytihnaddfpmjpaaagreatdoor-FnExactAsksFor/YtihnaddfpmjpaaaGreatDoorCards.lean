/-
  DERIVED. GIVEN WITH THE SEED: THE CARDS: each row of YtihnaddfpmjpaaaGreatDoorRows.lean that lists a variable, with what it lists TIED to the program's text (the seventh form; the later family's looks); each row that meets fmt, with fmt's text TOLD by the authors' own Lean function (tested against real Go, not proved from fmt's source: count such statements apart). THE CARD IS WHAT COUNTS. Prove the row's statement (the work); the ties are given (YtihnaddfpmjpaaaGreatDoorTie.lean); close each card by the builder's one call (the guide's Derived/Test/ToyasCard.lean, 'card_holds'). Laid BY PROGRAM, IN A SANDBOX (cutbox-door.mjs). By AI agents, Wed Nov 11 2026. No macro, syntax, notation, axiom, sorry.
-/
import Derived.Test.YtihnaddfpmjpaaaGreatDoorRows
import GoSem.ClaimSeven
namespace Go.Proofs.YtihnaddfpmjpaaaGreatDoor
namespace Rows

/-- THE TIED CARD OF 'laws.FnExactIds'. -/
def fnExactIdsCard : Claim7 := { stood := { row := fnExactIdsRow, standIns := [], harness := (true, "d413b0df470a3d3a05361b0ad08f203cd4142be339de83a9711e75d68fbe09f0"), looks := true }, kinds := [], alts := [], laidByText := true, laidKinds := [.data, .data, .data], laidTests := true, laidLooks := .later }
def FnExactIdsCardSaid : Prop := Claim7.holds Tryz.pinned (.plain (OpenSpec.ofChange fnExactIdsSpec)) fnExactIdsCard

/-- THE TIED CARD OF 'laws.FnExactActive'. -/
def fnExactActiveCard : Claim7 := { stood := { row := fnExactActiveRow, standIns := [], harness := (true, "d413b0df470a3d3a05361b0ad08f203cd4142be339de83a9711e75d68fbe09f0"), looks := true }, kinds := [], alts := [], laidByText := true, laidKinds := [.data, .data, .data], laidTests := true, laidLooks := .later }
def FnExactActiveCardSaid : Prop := Claim7.holds Tryz.pinned (.plain (OpenSpec.ofChange fnExactActiveSpec)) fnExactActiveCard

/-- THE TIED CARD OF 'laws.FnExactPoolOf'. -/
def fnExactPoolOfCard : Claim7 := { stood := { row := fnExactPoolOfRow, standIns := [], harness := (true, "d413b0df470a3d3a05361b0ad08f203cd4142be339de83a9711e75d68fbe09f0"), looks := true }, kinds := [], alts := [], laidByText := true, laidKinds := [.data, .data, .data], laidTests := true, laidLooks := .later }
def FnExactPoolOfCardSaid : Prop := Claim7.holds Tryz.pinned (.plain (OpenSpec.ofChange fnExactPoolOfSpec)) fnExactPoolOfCard

/-- THE TIED CARD OF 'laws.FnExactStateText'. -/
def fnExactStateTextCard : Claim7 := { stood := { row := fnExactStateTextRow, standIns := [], harness := (true, "d413b0df470a3d3a05361b0ad08f203cd4142be339de83a9711e75d68fbe09f0"), looks := true }, kinds := [], alts := [], laidByText := true, laidKinds := [.data, .data, .data], laidTests := true, laidLooks := .later }
def FnExactStateTextCardSaid : Prop := Claim7.holds Tryz.pinned (.plain (OpenSpec.ofChange fnExactStateTextSpec)) fnExactStateTextCard

/-- THE TIED CARD OF 'laws.FnExactReadState'. -/
def fnExactReadStateCard : Claim7 := { stood := { row := fnExactReadStateRow, standIns := [], harness := (true, "d413b0df470a3d3a05361b0ad08f203cd4142be339de83a9711e75d68fbe09f0"), looks := true }, kinds := [], alts := [], laidByText := true, laidKinds := [.data, .data, .data, .sentinel], laidTests := true, laidLooks := .later }
def FnExactReadStateCardSaid : Prop := Claim7.holds Tryz.pinned (.plain (OpenSpec.ofChange fnExactReadStateSpec)) fnExactReadStateCard

/-- THE TIED CARD OF 'laws.FnExactAsksFor'. -/
def fnExactAsksForCard : Claim7 := { stood := { row := fnExactAsksForRow, standIns := [], harness := (true, "d413b0df470a3d3a05361b0ad08f203cd4142be339de83a9711e75d68fbe09f0"), looks := true }, kinds := [], alts := [], laidByText := true, laidKinds := [.data, .data, .data], laidTests := true, laidLooks := .later }
def FnExactAsksForCardSaid : Prop := Claim7.holds Tryz.pinned (.plain (OpenSpec.ofChange fnExactAsksForSpec)) fnExactAsksForCard

/-- THE SECOND FORM's CARD OF 'laws.FnExactIds'. -/
def fnExactIdsUptoCard : Claim7 := { stood := { row := fnExactIdsUptoRow, standIns := [], harness := (true, "d413b0df470a3d3a05361b0ad08f203cd4142be339de83a9711e75d68fbe09f0"), looks := true }, kinds := [], alts := [], laidByText := true, laidKinds := [.data, .data, .data], laidTests := true, laidLooks := .later }
def FnExactIdsUptoCardSaid : Prop := Claim7.holds Tryz.pinned (.plain (OpenSpec.upto fnExactIdsSpec)) fnExactIdsUptoCard

/-- THE SECOND FORM's CARD OF 'laws.FnExactActive'. -/
def fnExactActiveUptoCard : Claim7 := { stood := { row := fnExactActiveUptoRow, standIns := [], harness := (true, "d413b0df470a3d3a05361b0ad08f203cd4142be339de83a9711e75d68fbe09f0"), looks := true }, kinds := [], alts := [], laidByText := true, laidKinds := [.data, .data, .data], laidTests := true, laidLooks := .later }
def FnExactActiveUptoCardSaid : Prop := Claim7.holds Tryz.pinned (.plain (OpenSpec.upto fnExactActiveSpec)) fnExactActiveUptoCard

/-- THE SECOND FORM's CARD OF 'laws.FnExactPoolOf'. -/
def fnExactPoolOfUptoCard : Claim7 := { stood := { row := fnExactPoolOfUptoRow, standIns := [], harness := (true, "d413b0df470a3d3a05361b0ad08f203cd4142be339de83a9711e75d68fbe09f0"), looks := true }, kinds := [], alts := [], laidByText := true, laidKinds := [.data, .data, .data], laidTests := true, laidLooks := .later }
def FnExactPoolOfUptoCardSaid : Prop := Claim7.holds Tryz.pinned (.plain (OpenSpec.upto fnExactPoolOfSpec)) fnExactPoolOfUptoCard

/-- THE SECOND FORM's CARD OF 'laws.FnExactStateText'. -/
def fnExactStateTextUptoCard : Claim7 := { stood := { row := fnExactStateTextUptoRow, standIns := [], harness := (true, "d413b0df470a3d3a05361b0ad08f203cd4142be339de83a9711e75d68fbe09f0"), looks := true }, kinds := [], alts := [], laidByText := true, laidKinds := [.data, .data, .data], laidTests := true, laidLooks := .later }
def FnExactStateTextUptoCardSaid : Prop := Claim7.holds Tryz.pinned (.plain (OpenSpec.upto fnExactStateTextSpec)) fnExactStateTextUptoCard

/-- THE SECOND FORM's CARD OF 'laws.FnExactReadState'. -/
def fnExactReadStateUptoCard : Claim7 := { stood := { row := fnExactReadStateUptoRow, standIns := [], harness := (true, "d413b0df470a3d3a05361b0ad08f203cd4142be339de83a9711e75d68fbe09f0"), looks := true }, kinds := [], alts := [], laidByText := true, laidKinds := [.data, .data, .data, .sentinel], laidTests := true, laidLooks := .later }
def FnExactReadStateUptoCardSaid : Prop := Claim7.holds Tryz.pinned (.plain (OpenSpec.upto fnExactReadStateSpec)) fnExactReadStateUptoCard

/-- THE SECOND FORM's CARD OF 'laws.FnExactAsksFor'. -/
def fnExactAsksForUptoCard : Claim7 := { stood := { row := fnExactAsksForUptoRow, standIns := [], harness := (true, "d413b0df470a3d3a05361b0ad08f203cd4142be339de83a9711e75d68fbe09f0"), looks := true }, kinds := [], alts := [], laidByText := true, laidKinds := [.data, .data, .data], laidTests := true, laidLooks := .later }
def FnExactAsksForUptoCardSaid : Prop := Claim7.holds Tryz.pinned (.plain (OpenSpec.upto fnExactAsksForSpec)) fnExactAsksForUptoCard
end Rows
end Go.Proofs.YtihnaddfpmjpaaaGreatDoor
