/-
  DERIVED. GIVEN WITH THE SEED: THE CARDS: each row of YtobdmjoonjblpaaGreatDoorRows.lean that lists a variable, with what it lists TIED to the program's text (the seventh form; the later family's looks); each row that meets fmt, with fmt's text TOLD by the authors' own Lean function (tested against real Go, not proved from fmt's source: count such statements apart). THE CARD IS WHAT COUNTS. Prove the row's statement (the work); the ties are given (YtobdmjoonjblpaaGreatDoorTie.lean); close each card by the builder's one call (the guide's Derived/Test/ToyasCard.lean, 'card_holds'). Laid BY PROGRAM, IN A SANDBOX (cutbox-door.mjs). By AI agents, Wed Nov 11 2026. No macro, syntax, notation, axiom, sorry.
-/
import Derived.Test.YtobdmjoonjblpaaGreatDoorRows
import GoSem.ClaimSeven
namespace Go.Proofs.YtobdmjoonjblpaaGreatDoor
namespace Rows

/-- THE TIED CARD OF 'laws.FnExactFormatStore'. -/
def fnExactFormatStoreCard : Claim7 := { stood := { row := fnExactFormatStoreRow, standIns := [], harness := (true, "b65d1fe25a1d98cbadef503d95db737c97800799495a5a2e6fd5c0ac588474e9"), looks := true }, kinds := [], alts := [], laidByText := true, laidKinds := [.handle], laidTests := true, laidLooks := .later }
def FnExactFormatStoreCardSaid : Prop := Claim7.holds Tryz.pinned (.plain (OpenSpec.ofChange fnExactFormatStoreSpec)) fnExactFormatStoreCard

/-- THE TIED CARD OF 'laws.FnExactOpenStore'. -/
def fnExactOpenStoreCard : Claim7 := { stood := { row := fnExactOpenStoreRow, standIns := [], harness := (true, "b65d1fe25a1d98cbadef503d95db737c97800799495a5a2e6fd5c0ac588474e9"), looks := true }, kinds := [], alts := [], laidByText := true, laidKinds := [.handle], laidTests := true, laidLooks := .later }
def FnExactOpenStoreCardSaid : Prop := Claim7.holds Tryz.pinned (.plain (OpenSpec.ofChange fnExactOpenStoreSpec)) fnExactOpenStoreCard

/-- THE TIED CARD OF 'laws.FnExactCommitStore'. -/
def fnExactCommitStoreCard : Claim7 := { stood := { row := fnExactCommitStoreRow, standIns := [], harness := (true, "b65d1fe25a1d98cbadef503d95db737c97800799495a5a2e6fd5c0ac588474e9"), looks := true }, kinds := [], alts := [], laidByText := true, laidKinds := [.handle], laidTests := true, laidLooks := .later }
def FnExactCommitStoreCardSaid : Prop := Claim7.holds Tryz.pinned (.plain (OpenSpec.ofChange fnExactCommitStoreSpec)) fnExactCommitStoreCard

/-- THE TIED CARD OF 'laws.FnExactCrashCommit'. -/
def fnExactCrashCommitCard : Claim7 := { stood := { row := fnExactCrashCommitRow, standIns := [], harness := (true, "b65d1fe25a1d98cbadef503d95db737c97800799495a5a2e6fd5c0ac588474e9"), looks := true }, kinds := [], alts := [], laidByText := true, laidKinds := [.handle], laidTests := true, laidLooks := .later }
def FnExactCrashCommitCardSaid : Prop := Claim7.holds Tryz.pinned (.plain (OpenSpec.ofChange fnExactCrashCommitSpec)) fnExactCrashCommitCard

/-- THE TIED CARD OF 'laws.FnComesBack'. -/
def fnComesBackCard : Claim7 := { stood := { row := fnComesBackRow, standIns := [], harness := (true, "b65d1fe25a1d98cbadef503d95db737c97800799495a5a2e6fd5c0ac588474e9"), looks := true }, kinds := [], alts := [], laidByText := true, laidKinds := [.handle], laidTests := true, laidLooks := .later }
def FnComesBackCardSaid : Prop := Claim7.holds Tryz.pinned (.plain (OpenSpec.ofChange fnComesBackSpec)) fnComesBackCard

/-- THE TIED CARD OF 'laws.FnStores'. -/
def fnStoresCard : Claim7 := { stood := { row := fnStoresRow, standIns := [], harness := (true, "b65d1fe25a1d98cbadef503d95db737c97800799495a5a2e6fd5c0ac588474e9"), looks := true }, kinds := [], alts := [], laidByText := true, laidKinds := [.handle], laidTests := true, laidLooks := .later }
def FnStoresCardSaid : Prop := Claim7.holds Tryz.pinned (.plain (OpenSpec.ofChange fnStoresSpec)) fnStoresCard

/-- THE SECOND FORM's CARD OF 'laws.FnExactFormatStore'. -/
def fnExactFormatStoreUptoCard : Claim7 := { stood := { row := fnExactFormatStoreUptoRow, standIns := [], harness := (true, "b65d1fe25a1d98cbadef503d95db737c97800799495a5a2e6fd5c0ac588474e9"), looks := true }, kinds := [], alts := [], laidByText := true, laidKinds := [.handle], laidTests := true, laidLooks := .later }
def FnExactFormatStoreUptoCardSaid : Prop := Claim7.holds Tryz.pinned (.plain (OpenSpec.upto fnExactFormatStoreSpec)) fnExactFormatStoreUptoCard

/-- THE SECOND FORM's CARD OF 'laws.FnExactOpenStore'. -/
def fnExactOpenStoreUptoCard : Claim7 := { stood := { row := fnExactOpenStoreUptoRow, standIns := [], harness := (true, "b65d1fe25a1d98cbadef503d95db737c97800799495a5a2e6fd5c0ac588474e9"), looks := true }, kinds := [], alts := [], laidByText := true, laidKinds := [.handle], laidTests := true, laidLooks := .later }
def FnExactOpenStoreUptoCardSaid : Prop := Claim7.holds Tryz.pinned (.plain (OpenSpec.upto fnExactOpenStoreSpec)) fnExactOpenStoreUptoCard

/-- THE SECOND FORM's CARD OF 'laws.FnExactCommitStore'. -/
def fnExactCommitStoreUptoCard : Claim7 := { stood := { row := fnExactCommitStoreUptoRow, standIns := [], harness := (true, "b65d1fe25a1d98cbadef503d95db737c97800799495a5a2e6fd5c0ac588474e9"), looks := true }, kinds := [], alts := [], laidByText := true, laidKinds := [.handle], laidTests := true, laidLooks := .later }
def FnExactCommitStoreUptoCardSaid : Prop := Claim7.holds Tryz.pinned (.plain (OpenSpec.upto fnExactCommitStoreSpec)) fnExactCommitStoreUptoCard

/-- THE SECOND FORM's CARD OF 'laws.FnExactCrashCommit'. -/
def fnExactCrashCommitUptoCard : Claim7 := { stood := { row := fnExactCrashCommitUptoRow, standIns := [], harness := (true, "b65d1fe25a1d98cbadef503d95db737c97800799495a5a2e6fd5c0ac588474e9"), looks := true }, kinds := [], alts := [], laidByText := true, laidKinds := [.handle], laidTests := true, laidLooks := .later }
def FnExactCrashCommitUptoCardSaid : Prop := Claim7.holds Tryz.pinned (.plain (OpenSpec.upto fnExactCrashCommitSpec)) fnExactCrashCommitUptoCard

/-- THE SECOND FORM's CARD OF 'laws.FnComesBack'. -/
def fnComesBackUptoCard : Claim7 := { stood := { row := fnComesBackUptoRow, standIns := [], harness := (true, "b65d1fe25a1d98cbadef503d95db737c97800799495a5a2e6fd5c0ac588474e9"), looks := true }, kinds := [], alts := [], laidByText := true, laidKinds := [.handle], laidTests := true, laidLooks := .later }
def FnComesBackUptoCardSaid : Prop := Claim7.holds Tryz.pinned (.plain (OpenSpec.upto fnComesBackSpec)) fnComesBackUptoCard

/-- THE SECOND FORM's CARD OF 'laws.FnStores'. -/
def fnStoresUptoCard : Claim7 := { stood := { row := fnStoresUptoRow, standIns := [], harness := (true, "b65d1fe25a1d98cbadef503d95db737c97800799495a5a2e6fd5c0ac588474e9"), looks := true }, kinds := [], alts := [], laidByText := true, laidKinds := [.handle], laidTests := true, laidLooks := .later }
def FnStoresUptoCardSaid : Prop := Claim7.holds Tryz.pinned (.plain (OpenSpec.upto fnStoresSpec)) fnStoresUptoCard
end Rows
end Go.Proofs.YtobdmjoonjblpaaGreatDoor
