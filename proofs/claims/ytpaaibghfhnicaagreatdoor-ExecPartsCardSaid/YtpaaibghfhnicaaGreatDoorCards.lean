/-
  DERIVED. GIVEN WITH THE SEED: THE CARDS: each row of YtpaaibghfhnicaaGreatDoorRows.lean that lists a variable, with what it lists TIED to the program's text (the seventh form; the later family's looks); each row that meets fmt, with fmt's text TOLD by the authors' own Lean function (tested against real Go, not proved from fmt's source: count such statements apart). THE CARD IS WHAT COUNTS. Prove the row's statement (the work); the ties are given (YtpaaibghfhnicaaGreatDoorTie.lean); close each card by the builder's one call (the guide's Derived/Test/ToyasCard.lean, 'card_holds'). Laid BY PROGRAM, IN A SANDBOX (cutbox-door.mjs). By AI agents, Wed Nov 11 2026. No macro, syntax, notation, axiom, sorry.
-/
import Derived.Test.YtpaaibghfhnicaaGreatDoorRows
import GoSem.ClaimSeven
namespace Go.Proofs.YtpaaibghfhnicaaGreatDoor
namespace Rows

/-- THE TIED CARD OF 'watersmeetlaw16.ExecTells'. -/
def execTellsCard : Claim7 := { stood := { row := execTellsRow, standIns := [], harness := (true, "68dd50125f35fc72f33e4bd217db7b7acd185c8de8b9dc59c3f9ebfef0826521"), looks := false }, kinds := [], alts := [], laidByText := true, laidKinds := [.data, .data, .data, .data], laidTests := true, laidLooks := .later }
def ExecTellsCardSaid : Prop := Claim7.holds Tryz.pinned (.plain (OpenSpec.ofChange execTellsSpec)) execTellsCard

/-- THE TIED CARD OF 'watersmeetlaw16.ExecHash'. -/
def execHashCard : Claim7 := { stood := { row := execHashRow, standIns := [], harness := (true, "68dd50125f35fc72f33e4bd217db7b7acd185c8de8b9dc59c3f9ebfef0826521"), looks := false }, kinds := [], alts := [], laidByText := true, laidKinds := [.data, .data, .data, .data], laidTests := true, laidLooks := .later }
def ExecHashCardSaid : Prop := Claim7.holds Tryz.pinned (.plain (OpenSpec.ofChange execHashSpec)) execHashCard

/-- THE TIED CARD OF 'watersmeetlaw16.ExecParts'. -/
def execPartsCard : Claim7 := { stood := { row := execPartsRow, standIns := [], harness := (true, "68dd50125f35fc72f33e4bd217db7b7acd185c8de8b9dc59c3f9ebfef0826521"), looks := false }, kinds := [], alts := [], laidByText := true, laidKinds := [.data, .data, .data, .data], laidTests := true, laidLooks := .later }
def ExecPartsCardSaid : Prop := Claim7.holds Tryz.pinned (.plain (OpenSpec.ofChange execPartsSpec)) execPartsCard

/-- THE SECOND FORM's CARD OF 'watersmeetlaw16.ExecTells'. -/
def execTellsUptoCard : Claim7 := { stood := { row := execTellsUptoRow, standIns := [], harness := (true, "68dd50125f35fc72f33e4bd217db7b7acd185c8de8b9dc59c3f9ebfef0826521"), looks := false }, kinds := [], alts := [], laidByText := true, laidKinds := [.data, .data, .data, .data], laidTests := true, laidLooks := .later }
def ExecTellsUptoCardSaid : Prop := Claim7.holds Tryz.pinned (.plain (OpenSpec.upto execTellsSpec)) execTellsUptoCard

/-- THE SECOND FORM's CARD OF 'watersmeetlaw16.ExecHash'. -/
def execHashUptoCard : Claim7 := { stood := { row := execHashUptoRow, standIns := [], harness := (true, "68dd50125f35fc72f33e4bd217db7b7acd185c8de8b9dc59c3f9ebfef0826521"), looks := false }, kinds := [], alts := [], laidByText := true, laidKinds := [.data, .data, .data, .data], laidTests := true, laidLooks := .later }
def ExecHashUptoCardSaid : Prop := Claim7.holds Tryz.pinned (.plain (OpenSpec.upto execHashSpec)) execHashUptoCard

/-- THE SECOND FORM's CARD OF 'watersmeetlaw16.ExecParts'. -/
def execPartsUptoCard : Claim7 := { stood := { row := execPartsUptoRow, standIns := [], harness := (true, "68dd50125f35fc72f33e4bd217db7b7acd185c8de8b9dc59c3f9ebfef0826521"), looks := false }, kinds := [], alts := [], laidByText := true, laidKinds := [.data, .data, .data, .data], laidTests := true, laidLooks := .later }
def ExecPartsUptoCardSaid : Prop := Claim7.holds Tryz.pinned (.plain (OpenSpec.upto execPartsSpec)) execPartsUptoCard
end Rows
end Go.Proofs.YtpaaibghfhnicaaGreatDoor
