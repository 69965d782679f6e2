/-
  DERIVED. GIVEN WITH THE SEED: THE CARDS: each row of YtjblkijicfmkgaaGreatDoorRows.lean that lists a variable, with what it lists TIED to the program's text (the seventh form; the later family's looks); each row that meets fmt, with fmt's text TOLD by the authors' own Lean function (tested against real Go, not proved from fmt's source: count such statements apart). THE CARD IS WHAT COUNTS. Prove the row's statement (the work); the ties are given (YtjblkijicfmkgaaGreatDoorTie.lean); close each card by the builder's one call (the guide's Derived/Test/ToyasCard.lean, 'card_holds'). Laid BY PROGRAM, IN A SANDBOX (cutbox-door.mjs). By AI agents, Wed Nov 11 2026. No macro, syntax, notation, axiom, sorry.
-/
import Derived.Test.YtjblkijicfmkgaaGreatDoorRows
import GoSem.ClaimSeven
namespace Go.Proofs.YtjblkijicfmkgaaGreatDoor
namespace Rows

/-- THE TIED CARD OF 'laws.FnExactTotals'. -/
def fnExactTotalsCard : Claim7 := { stood := { row := fnExactTotalsRow, standIns := [], harness := (true, "92610d38e1394b1ce3e6be925a6ee693db892972e988817bf1a0265e53de4fe9"), looks := false }, kinds := [], alts := [], laidByText := true, laidKinds := [.data, .data, .data], laidTests := true, laidLooks := .later }
def FnExactTotalsCardSaid : Prop := Claim7.holds Tryz.pinned (.plain (OpenSpec.ofChange fnExactTotalsSpec)) fnExactTotalsCard

/-- THE TIED CARD OF 'laws.FnExactWhoWith'. -/
def fnExactWhoWithCard : Claim7 := { stood := { row := fnExactWhoWithRow, standIns := [], harness := (true, "92610d38e1394b1ce3e6be925a6ee693db892972e988817bf1a0265e53de4fe9"), looks := false }, kinds := [], alts := [], laidByText := true, laidKinds := [.data, .data, .data], laidTests := true, laidLooks := .later }
def FnExactWhoWithCardSaid : Prop := Claim7.holds Tryz.pinned (.plain (OpenSpec.ofChange fnExactWhoWithSpec)) fnExactWhoWithCard

/-- THE TIED CARD OF 'laws.FnExactCouplesOf'. -/
def fnExactCouplesOfCard : Claim7 := { stood := { row := fnExactCouplesOfRow, standIns := [], harness := (true, "92610d38e1394b1ce3e6be925a6ee693db892972e988817bf1a0265e53de4fe9"), looks := false }, kinds := [], alts := [], laidByText := true, laidKinds := [.data, .data, .data], laidTests := true, laidLooks := .later }
def FnExactCouplesOfCardSaid : Prop := Claim7.holds Tryz.pinned (.plain (OpenSpec.ofChange fnExactCouplesOfSpec)) fnExactCouplesOfCard

/-- THE TIED CARD OF 'laws.FnExactTurn'. -/
def fnExactTurnCard : Claim7 := { stood := { row := fnExactTurnRow, standIns := [], harness := (true, "92610d38e1394b1ce3e6be925a6ee693db892972e988817bf1a0265e53de4fe9"), looks := false }, kinds := [], alts := [], laidByText := true, laidKinds := [.data, .data, .data], laidTests := true, laidLooks := .later }
def FnExactTurnCardSaid : Prop := Claim7.holds Tryz.pinned (.plain (OpenSpec.ofChange fnExactTurnSpec)) fnExactTurnCard

/-- THE TIED CARD OF 'laws.FnExactShowRound'. -/
def fnExactShowRoundCard : Claim7 := { stood := { row := fnExactShowRoundRow, standIns := [], harness := (true, "92610d38e1394b1ce3e6be925a6ee693db892972e988817bf1a0265e53de4fe9"), looks := false }, kinds := [], alts := [], laidByText := true, laidKinds := [.data, .data, .data], laidTests := true, laidLooks := .later }
def FnExactShowRoundCardSaid : Prop := Claim7.holds Tryz.pinned (.plain (OpenSpec.ofChange fnExactShowRoundSpec)) fnExactShowRoundCard

/-- THE SECOND FORM's CARD OF 'laws.FnExactTotals'. -/
def fnExactTotalsUptoCard : Claim7 := { stood := { row := fnExactTotalsUptoRow, standIns := [], harness := (true, "92610d38e1394b1ce3e6be925a6ee693db892972e988817bf1a0265e53de4fe9"), looks := false }, kinds := [], alts := [], laidByText := true, laidKinds := [.data, .data, .data], laidTests := true, laidLooks := .later }
def FnExactTotalsUptoCardSaid : Prop := Claim7.holds Tryz.pinned (.plain (OpenSpec.upto fnExactTotalsSpec)) fnExactTotalsUptoCard

/-- THE SECOND FORM's CARD OF 'laws.FnExactWhoWith'. -/
def fnExactWhoWithUptoCard : Claim7 := { stood := { row := fnExactWhoWithUptoRow, standIns := [], harness := (true, "92610d38e1394b1ce3e6be925a6ee693db892972e988817bf1a0265e53de4fe9"), looks := false }, kinds := [], alts := [], laidByText := true, laidKinds := [.data, .data, .data], laidTests := true, laidLooks := .later }
def FnExactWhoWithUptoCardSaid : Prop := Claim7.holds Tryz.pinned (.plain (OpenSpec.upto fnExactWhoWithSpec)) fnExactWhoWithUptoCard

/-- THE SECOND FORM's CARD OF 'laws.FnExactCouplesOf'. -/
def fnExactCouplesOfUptoCard : Claim7 := { stood := { row := fnExactCouplesOfUptoRow, standIns := [], harness := (true, "92610d38e1394b1ce3e6be925a6ee693db892972e988817bf1a0265e53de4fe9"), looks := false }, kinds := [], alts := [], laidByText := true, laidKinds := [.data, .data, .data], laidTests := true, laidLooks := .later }
def FnExactCouplesOfUptoCardSaid : Prop := Claim7.holds Tryz.pinned (.plain (OpenSpec.upto fnExactCouplesOfSpec)) fnExactCouplesOfUptoCard

/-- THE SECOND FORM's CARD OF 'laws.FnExactTurn'. -/
def fnExactTurnUptoCard : Claim7 := { stood := { row := fnExactTurnUptoRow, standIns := [], harness := (true, "92610d38e1394b1ce3e6be925a6ee693db892972e988817bf1a0265e53de4fe9"), looks := false }, kinds := [], alts := [], laidByText := true, laidKinds := [.data, .data, .data], laidTests := true, laidLooks := .later }
def FnExactTurnUptoCardSaid : Prop := Claim7.holds Tryz.pinned (.plain (OpenSpec.upto fnExactTurnSpec)) fnExactTurnUptoCard

/-- THE SECOND FORM's CARD OF 'laws.FnExactShowRound'. -/
def fnExactShowRoundUptoCard : Claim7 := { stood := { row := fnExactShowRoundUptoRow, standIns := [], harness := (true, "92610d38e1394b1ce3e6be925a6ee693db892972e988817bf1a0265e53de4fe9"), looks := false }, kinds := [], alts := [], laidByText := true, laidKinds := [.data, .data, .data], laidTests := true, laidLooks := .later }
def FnExactShowRoundUptoCardSaid : Prop := Claim7.holds Tryz.pinned (.plain (OpenSpec.upto fnExactShowRoundSpec)) fnExactShowRoundUptoCard
end Rows
end Go.Proofs.YtjblkijicfmkgaaGreatDoor
