/-
  DERIVED. GIVEN WITH THE SEED: THE CARDS: each row of YtjciccjcekcogaaGreatDoorRows.lean that lists a variable, with what it lists TIED to the program's text (the seventh form; the later family's looks); each row that meets fmt, with fmt's text TOLD by the authors' own Lean function (tested against real Go, not proved from fmt's source: count such statements apart). THE CARD IS WHAT COUNTS. Prove the row's statement (the work); the ties are given (YtjciccjcekcogaaGreatDoorTie.lean); close each card by the builder's one call (the guide's Derived/Test/ToyasCard.lean, 'card_holds'). Laid BY PROGRAM, IN A SANDBOX (cutbox-door.mjs). By AI agents, Wed Nov 11 2026. No macro, syntax, notation, axiom, sorry.
-/
import Derived.Test.YtjciccjcekcogaaGreatDoorRows
import GoSem.ClaimSeven
namespace Go.Proofs.YtjciccjcekcogaaGreatDoor
namespace Rows

/-- THE TIED CARD OF 'laws.FnExactAudited'. -/
def fnExactAuditedCard : Claim7 := { stood := { row := fnExactAuditedRow, standIns := [], harness := (true, "286d9e4504252f7d0159ddedc1abd0910d43da7d127ce39e0567e4cea5dc5c08"), looks := false }, kinds := [], alts := [], laidByText := true, laidKinds := [.data, .data, .data], laidTests := true, laidLooks := .later }
def FnExactAuditedCardSaid : Prop := Claim7.holds Tryz.pinned (.plain (OpenSpec.ofChange fnExactAuditedSpec)) fnExactAuditedCard

/-- THE SECOND FORM's CARD OF 'laws.FnExactAudited'. -/
def fnExactAuditedUptoCard : Claim7 := { stood := { row := fnExactAuditedUptoRow, standIns := [], harness := (true, "286d9e4504252f7d0159ddedc1abd0910d43da7d127ce39e0567e4cea5dc5c08"), looks := false }, kinds := [], alts := [], laidByText := true, laidKinds := [.data, .data, .data], laidTests := true, laidLooks := .later }
def FnExactAuditedUptoCardSaid : Prop := Claim7.holds Tryz.pinned (.plain (OpenSpec.upto fnExactAuditedSpec)) fnExactAuditedUptoCard
end Rows
end Go.Proofs.YtjciccjcekcogaaGreatDoor
