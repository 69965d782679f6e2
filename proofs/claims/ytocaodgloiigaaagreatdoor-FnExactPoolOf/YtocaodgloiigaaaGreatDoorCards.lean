/-
  DERIVED. GIVEN WITH THE SEED: THE CARDS: each row of YtocaodgloiigaaaGreatDoorRows.lean that lists a variable, with what it lists TIED to the program's text (the seventh form; the later family's looks); each row that meets fmt, with fmt's text TOLD by the authors' own Lean function (tested against real Go, not proved from fmt's source: count such statements apart). THE CARD IS WHAT COUNTS. Prove the row's statement (the work); the ties are given (YtocaodgloiigaaaGreatDoorTie.lean); close each card by the builder's one call (the guide's Derived/Test/ToyasCard.lean, 'card_holds'). Laid BY PROGRAM, IN A SANDBOX (cutbox-door.mjs). By AI agents, Wed Nov 11 2026. No macro, syntax, notation, axiom, sorry.
-/
import Derived.Test.YtocaodgloiigaaaGreatDoorRows
import GoSem.ClaimSeven
namespace Go.Proofs.YtocaodgloiigaaaGreatDoor
namespace Rows

/-- THE TIED CARD OF 'laws.FnExactStateOk'. -/
def fnExactStateOkCard : Claim7 := { stood := { row := fnExactStateOkRow, standIns := [], harness := (true, "5707b3b032b2f539ac0a37aacfb5d200c59e2e0beb21edffecfb15d3ee4276c4"), looks := false }, kinds := [], alts := [], laidByText := true, laidKinds := [.data, .data, .data], laidTests := true, laidLooks := .later }
def FnExactStateOkCardSaid : Prop := Claim7.holds Tryz.pinned (.plain (OpenSpec.ofChange fnExactStateOkSpec)) fnExactStateOkCard

/-- THE TIED CARD OF 'laws.FnExactIds'. -/
def fnExactIdsCard : Claim7 := { stood := { row := fnExactIdsRow, standIns := [], harness := (true, "5707b3b032b2f539ac0a37aacfb5d200c59e2e0beb21edffecfb15d3ee4276c4"), looks := false }, kinds := [], alts := [], laidByText := true, laidKinds := [.data, .data, .data], laidTests := true, laidLooks := .later }
def FnExactIdsCardSaid : Prop := Claim7.holds Tryz.pinned (.plain (OpenSpec.ofChange fnExactIdsSpec)) fnExactIdsCard

/-- THE TIED CARD OF 'laws.FnExactActive'. -/
def fnExactActiveCard : Claim7 := { stood := { row := fnExactActiveRow, standIns := [], harness := (true, "5707b3b032b2f539ac0a37aacfb5d200c59e2e0beb21edffecfb15d3ee4276c4"), looks := false }, kinds := [], alts := [], laidByText := true, laidKinds := [.data, .data, .data], laidTests := true, laidLooks := .later }
def FnExactActiveCardSaid : Prop := Claim7.holds Tryz.pinned (.plain (OpenSpec.ofChange fnExactActiveSpec)) fnExactActiveCard

/-- THE TIED CARD OF 'laws.FnExactPoolOf'. -/
def fnExactPoolOfCard : Claim7 := { stood := { row := fnExactPoolOfRow, standIns := [], harness := (true, "5707b3b032b2f539ac0a37aacfb5d200c59e2e0beb21edffecfb15d3ee4276c4"), looks := false }, kinds := [], alts := [], laidByText := true, laidKinds := [.data, .data, .data], laidTests := true, laidLooks := .later }
def FnExactPoolOfCardSaid : Prop := Claim7.holds Tryz.pinned (.plain (OpenSpec.ofChange fnExactPoolOfSpec)) fnExactPoolOfCard

/-- THE TIED CARD OF 'laws.FnExactRoundOf'. -/
def fnExactRoundOfCard : Claim7 := { stood := { row := fnExactRoundOfRow, standIns := [], harness := (true, "5707b3b032b2f539ac0a37aacfb5d200c59e2e0beb21edffecfb15d3ee4276c4"), looks := false }, kinds := [], alts := [], laidByText := true, laidKinds := [.data, .data, .data], laidTests := true, laidLooks := .later }
def FnExactRoundOfCardSaid : Prop := Claim7.holds Tryz.pinned (.plain (OpenSpec.ofChange fnExactRoundOfSpec)) fnExactRoundOfCard

/-- THE SECOND FORM's CARD OF 'laws.FnExactStateOk'. -/
def fnExactStateOkUptoCard : Claim7 := { stood := { row := fnExactStateOkUptoRow, standIns := [], harness := (true, "5707b3b032b2f539ac0a37aacfb5d200c59e2e0beb21edffecfb15d3ee4276c4"), looks := false }, kinds := [], alts := [], laidByText := true, laidKinds := [.data, .data, .data], laidTests := true, laidLooks := .later }
def FnExactStateOkUptoCardSaid : Prop := Claim7.holds Tryz.pinned (.plain (OpenSpec.upto fnExactStateOkSpec)) fnExactStateOkUptoCard

/-- THE SECOND FORM's CARD OF 'laws.FnExactIds'. -/
def fnExactIdsUptoCard : Claim7 := { stood := { row := fnExactIdsUptoRow, standIns := [], harness := (true, "5707b3b032b2f539ac0a37aacfb5d200c59e2e0beb21edffecfb15d3ee4276c4"), looks := false }, kinds := [], alts := [], laidByText := true, laidKinds := [.data, .data, .data], laidTests := true, laidLooks := .later }
def FnExactIdsUptoCardSaid : Prop := Claim7.holds Tryz.pinned (.plain (OpenSpec.upto fnExactIdsSpec)) fnExactIdsUptoCard

/-- THE SECOND FORM's CARD OF 'laws.FnExactActive'. -/
def fnExactActiveUptoCard : Claim7 := { stood := { row := fnExactActiveUptoRow, standIns := [], harness := (true, "5707b3b032b2f539ac0a37aacfb5d200c59e2e0beb21edffecfb15d3ee4276c4"), looks := false }, kinds := [], alts := [], laidByText := true, laidKinds := [.data, .data, .data], laidTests := true, laidLooks := .later }
def FnExactActiveUptoCardSaid : Prop := Claim7.holds Tryz.pinned (.plain (OpenSpec.upto fnExactActiveSpec)) fnExactActiveUptoCard

/-- THE SECOND FORM's CARD OF 'laws.FnExactPoolOf'. -/
def fnExactPoolOfUptoCard : Claim7 := { stood := { row := fnExactPoolOfUptoRow, standIns := [], harness := (true, "5707b3b032b2f539ac0a37aacfb5d200c59e2e0beb21edffecfb15d3ee4276c4"), looks := false }, kinds := [], alts := [], laidByText := true, laidKinds := [.data, .data, .data], laidTests := true, laidLooks := .later }
def FnExactPoolOfUptoCardSaid : Prop := Claim7.holds Tryz.pinned (.plain (OpenSpec.upto fnExactPoolOfSpec)) fnExactPoolOfUptoCard

/-- THE SECOND FORM's CARD OF 'laws.FnExactRoundOf'. -/
def fnExactRoundOfUptoCard : Claim7 := { stood := { row := fnExactRoundOfUptoRow, standIns := [], harness := (true, "5707b3b032b2f539ac0a37aacfb5d200c59e2e0beb21edffecfb15d3ee4276c4"), looks := false }, kinds := [], alts := [], laidByText := true, laidKinds := [.data, .data, .data], laidTests := true, laidLooks := .later }
def FnExactRoundOfUptoCardSaid : Prop := Claim7.holds Tryz.pinned (.plain (OpenSpec.upto fnExactRoundOfSpec)) fnExactRoundOfUptoCard
end Rows
end Go.Proofs.YtocaodgloiigaaaGreatDoor
