/-
  DERIVED. GIVEN WITH THE SEED: THE CARDS: each row of YtpdgbfeciacbdaaDoorRows.lean that lists a variable, with what it lists TIED to the program's text (the seventh form; the later family's looks); each row that meets fmt, with fmt's text TOLD by the authors' own Lean function (tested against real Go, not proved from fmt's source: count such statements apart). THE CARD IS WHAT COUNTS. Prove the row's statement (the work); the ties are given (YtpdgbfeciacbdaaDoorTie.lean); close each card by the builder's one call (the guide's Derived/Test/ToyasCard.lean, 'card_holds'). Laid BY PROGRAM, IN A SANDBOX (cutbox-door.mjs). By AI agents, Wed Nov 11 2026. No macro, syntax, notation, axiom, sorry.
-/
import Derived.Test.YtpdgbfeciacbdaaDoorRows
import GoSem.ClaimSeven
namespace Go.Proofs.YtpdgbfeciacbdaaDoor
namespace Rows

/-- THE TIED CARD OF 'watersmeetlaw07.RejectTells'. -/
def rejectTellsCard : Claim7 := { stood := { row := rejectTellsRow, standIns := [], harness := (true, "79aed52a0bafc2521d5b2af78d7893d6bb7d7eca716c02cd41f339a5691976f9"), looks := false }, kinds := [], alts := [], laidByText := true, laidKinds := [.data], laidTests := true, laidLooks := .later }
def RejectTellsCardSaid : Prop := Claim7.holds Tryd.pinned (.plain (OpenSpec.ofChange rejectTellsSpec)) rejectTellsCard

/-- THE TIED CARD OF 'watersmeetlaw07.RejectMeans'. -/
def rejectMeansCard : Claim7 := { stood := { row := rejectMeansRow, standIns := [], harness := (true, "79aed52a0bafc2521d5b2af78d7893d6bb7d7eca716c02cd41f339a5691976f9"), looks := false }, kinds := [], alts := [], laidByText := true, laidKinds := [.data], laidTests := true, laidLooks := .later }
def RejectMeansCardSaid : Prop := Claim7.holds Tryd.pinned (.plain (OpenSpec.ofChange rejectMeansSpec)) rejectMeansCard

/-- THE TIED CARD OF 'watersmeetlaw07.RejectGrows'. -/
def rejectGrowsCard : Claim7 := { stood := { row := rejectGrowsRow, standIns := [], harness := (true, "79aed52a0bafc2521d5b2af78d7893d6bb7d7eca716c02cd41f339a5691976f9"), looks := false }, kinds := [], alts := [], laidByText := true, laidKinds := [.data], laidTests := true, laidLooks := .later }
def RejectGrowsCardSaid : Prop := Claim7.holds Tryd.pinned (.plain (OpenSpec.ofChange rejectGrowsSpec)) rejectGrowsCard

/-- THE SECOND FORM's CARD OF 'watersmeetlaw07.RejectTells'. -/
def rejectTellsUptoCard : Claim7 := { stood := { row := rejectTellsUptoRow, standIns := [], harness := (true, "79aed52a0bafc2521d5b2af78d7893d6bb7d7eca716c02cd41f339a5691976f9"), looks := false }, kinds := [], alts := [], laidByText := true, laidKinds := [.data], laidTests := true, laidLooks := .later }
def RejectTellsUptoCardSaid : Prop := Claim7.holds Tryd.pinned (.plain (OpenSpec.upto rejectTellsSpec)) rejectTellsUptoCard

/-- THE SECOND FORM's CARD OF 'watersmeetlaw07.RejectMeans'. -/
def rejectMeansUptoCard : Claim7 := { stood := { row := rejectMeansUptoRow, standIns := [], harness := (true, "79aed52a0bafc2521d5b2af78d7893d6bb7d7eca716c02cd41f339a5691976f9"), looks := false }, kinds := [], alts := [], laidByText := true, laidKinds := [.data], laidTests := true, laidLooks := .later }
def RejectMeansUptoCardSaid : Prop := Claim7.holds Tryd.pinned (.plain (OpenSpec.upto rejectMeansSpec)) rejectMeansUptoCard

/-- THE SECOND FORM's CARD OF 'watersmeetlaw07.RejectGrows'. -/
def rejectGrowsUptoCard : Claim7 := { stood := { row := rejectGrowsUptoRow, standIns := [], harness := (true, "79aed52a0bafc2521d5b2af78d7893d6bb7d7eca716c02cd41f339a5691976f9"), looks := false }, kinds := [], alts := [], laidByText := true, laidKinds := [.data], laidTests := true, laidLooks := .later }
def RejectGrowsUptoCardSaid : Prop := Claim7.holds Tryd.pinned (.plain (OpenSpec.upto rejectGrowsSpec)) rejectGrowsUptoCard
end Rows
end Go.Proofs.YtpdgbfeciacbdaaDoor
