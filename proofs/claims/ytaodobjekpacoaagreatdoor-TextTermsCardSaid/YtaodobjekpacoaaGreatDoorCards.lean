/-
  DERIVED. GIVEN WITH THE SEED: THE CARDS: each row of YtaodobjekpacoaaGreatDoorRows.lean that lists a variable, with what it lists TIED to the program's text (the seventh form; the later family's looks); each row that meets fmt, with fmt's text TOLD by the authors' own Lean function (tested against real Go, not proved from fmt's source: count such statements apart). THE CARD IS WHAT COUNTS. Prove the row's statement (the work); the ties are given (YtaodobjekpacoaaGreatDoorTie.lean); close each card by the builder's one call (the guide's Derived/Test/ToyasCard.lean, 'card_holds'). Laid BY PROGRAM, IN A SANDBOX (cutbox-door.mjs). By AI agents, Wed Nov 11 2026. No macro, syntax, notation, axiom, sorry.
-/
import Derived.Test.YtaodobjekpacoaaGreatDoorRows
import GoSem.ClaimSeven
namespace Go.Proofs.YtaodobjekpacoaaGreatDoor
namespace Rows

/-- THE TIED CARD OF 'watersmeetlaw08.TextTerms'. -/
def textTermsCard : Claim7 := { stood := { row := textTermsRow, standIns := [], harness := (true, "928d16cfe4dce3f5b54e728e1cfc1bfb1d261c1ec8f39aa88464e48f67569a01"), looks := true }, kinds := [], alts := [], laidByText := true, laidKinds := [.data, .data, .data, .sentinel, .sentinel], laidTests := true, laidLooks := .later }
def TextTermsCardSaid : Prop := Claim7.holds Tryz.pinned (.plain (OpenSpec.ofChange textTermsSpec)) textTermsCard

/-- THE SECOND FORM's CARD OF 'watersmeetlaw08.TextTerms'. -/
def textTermsUptoCard : Claim7 := { stood := { row := textTermsUptoRow, standIns := [], harness := (true, "928d16cfe4dce3f5b54e728e1cfc1bfb1d261c1ec8f39aa88464e48f67569a01"), looks := true }, kinds := [], alts := [], laidByText := true, laidKinds := [.data, .data, .data, .sentinel, .sentinel], laidTests := true, laidLooks := .later }
def TextTermsUptoCardSaid : Prop := Claim7.holds Tryz.pinned (.plain (OpenSpec.upto textTermsSpec)) textTermsUptoCard
end Rows
end Go.Proofs.YtaodobjekpacoaaGreatDoor
