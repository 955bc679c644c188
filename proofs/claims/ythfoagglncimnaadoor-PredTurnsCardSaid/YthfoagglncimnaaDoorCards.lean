/-
  DERIVED. GIVEN WITH THE SEED: THE CARDS: each row of YthfoagglncimnaaDoorRows.lean that lists a variable, with what it lists TIED to the program's text (the seventh form; the later family's looks); each row that meets fmt, with fmt's text TOLD by the authors' own Lean function (tested against real Go, not proved from fmt's source: count such statements apart). THE CARD IS WHAT COUNTS. Prove the row's statement (the work); the ties are given (YthfoagglncimnaaDoorTie.lean); close each card by the builder's one call (the guide's Derived/Test/ToyasCard.lean, 'card_holds'). Laid BY PROGRAM, IN A SANDBOX (cutbox-door.mjs). By AI agents, Wed Nov 11 2026. No macro, syntax, notation, axiom, sorry.
-/
import Derived.Test.YthfoagglncimnaaDoorRows
import GoSem.ClaimSeven
namespace Go.Proofs.YthfoagglncimnaaDoor
namespace Rows

/-- THE TIED CARD OF 'watersmeetlaw06.PredTells'. -/
def predTellsCard : Claim7 := { stood := { row := predTellsRow, standIns := [], harness := (true, "09fe3df022e320d869819b4f3d5d1c8a9ab8e577bc13ce3e6ac9cc332dfe22da"), looks := false }, kinds := [], alts := [], laidByText := true, laidKinds := [.data], laidTests := true, laidLooks := .later }
def PredTellsCardSaid : Prop := Claim7.holds Tryd.pinned (.plain (OpenSpec.ofChange predTellsSpec)) predTellsCard

/-- THE TIED CARD OF 'watersmeetlaw06.PredTwins'. -/
def predTwinsCard : Claim7 := { stood := { row := predTwinsRow, standIns := [], harness := (true, "09fe3df022e320d869819b4f3d5d1c8a9ab8e577bc13ce3e6ac9cc332dfe22da"), looks := false }, kinds := [], alts := [], laidByText := true, laidKinds := [.data], laidTests := true, laidLooks := .later }
def PredTwinsCardSaid : Prop := Claim7.holds Tryd.pinned (.plain (OpenSpec.ofChange predTwinsSpec)) predTwinsCard

/-- THE TIED CARD OF 'watersmeetlaw06.PredTurns'. -/
def predTurnsCard : Claim7 := { stood := { row := predTurnsRow, standIns := [], harness := (true, "09fe3df022e320d869819b4f3d5d1c8a9ab8e577bc13ce3e6ac9cc332dfe22da"), looks := false }, kinds := [], alts := [], laidByText := true, laidKinds := [.data], laidTests := true, laidLooks := .later }
def PredTurnsCardSaid : Prop := Claim7.holds Tryd.pinned (.plain (OpenSpec.ofChange predTurnsSpec)) predTurnsCard

/-- THE SECOND FORM's CARD OF 'watersmeetlaw06.PredTells'. -/
def predTellsUptoCard : Claim7 := { stood := { row := predTellsUptoRow, standIns := [], harness := (true, "09fe3df022e320d869819b4f3d5d1c8a9ab8e577bc13ce3e6ac9cc332dfe22da"), looks := false }, kinds := [], alts := [], laidByText := true, laidKinds := [.data], laidTests := true, laidLooks := .later }
def PredTellsUptoCardSaid : Prop := Claim7.holds Tryd.pinned (.plain (OpenSpec.upto predTellsSpec)) predTellsUptoCard

/-- THE SECOND FORM's CARD OF 'watersmeetlaw06.PredTwins'. -/
def predTwinsUptoCard : Claim7 := { stood := { row := predTwinsUptoRow, standIns := [], harness := (true, "09fe3df022e320d869819b4f3d5d1c8a9ab8e577bc13ce3e6ac9cc332dfe22da"), looks := false }, kinds := [], alts := [], laidByText := true, laidKinds := [.data], laidTests := true, laidLooks := .later }
def PredTwinsUptoCardSaid : Prop := Claim7.holds Tryd.pinned (.plain (OpenSpec.upto predTwinsSpec)) predTwinsUptoCard

/-- THE SECOND FORM's CARD OF 'watersmeetlaw06.PredTurns'. -/
def predTurnsUptoCard : Claim7 := { stood := { row := predTurnsUptoRow, standIns := [], harness := (true, "09fe3df022e320d869819b4f3d5d1c8a9ab8e577bc13ce3e6ac9cc332dfe22da"), looks := false }, kinds := [], alts := [], laidByText := true, laidKinds := [.data], laidTests := true, laidLooks := .later }
def PredTurnsUptoCardSaid : Prop := Claim7.holds Tryd.pinned (.plain (OpenSpec.upto predTurnsSpec)) predTurnsUptoCard
end Rows
end Go.Proofs.YthfoagglncimnaaDoor
