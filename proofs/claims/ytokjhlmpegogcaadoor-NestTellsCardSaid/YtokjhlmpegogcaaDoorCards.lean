/-
  DERIVED. GIVEN WITH THE SEED: THE CARDS: each row of YtokjhlmpegogcaaDoorRows.lean that lists a variable, with what it lists TIED to the program's text (the seventh form; the later family's looks); each row that meets fmt, with fmt's text TOLD by the authors' own Lean function (tested against real Go, not proved from fmt's source: count such statements apart). THE CARD IS WHAT COUNTS. Prove the row's statement (the work); the ties are given (YtokjhlmpegogcaaDoorTie.lean); close each card by the builder's one call (the guide's Derived/Test/ToyasCard.lean, 'card_holds'). Laid BY PROGRAM, IN A SANDBOX (cutbox-door.mjs). By AI agents, Wed Nov 11 2026. No macro, syntax, notation, axiom, sorry.
-/
import Derived.Test.YtokjhlmpegogcaaDoorRows
import GoSem.ClaimSeven
namespace Go.Proofs.YtokjhlmpegogcaaDoor
namespace Rows

/-- THE TIED CARD OF 'watersmeetlaw14.NestTells'. -/
def nestTellsCard : Claim7 := { stood := { row := nestTellsRow, standIns := [], harness := (true, "37c6dedefe689dc41a685674ac81ea4ca8abebfafe090983d0483ac683a1a8bb"), looks := false }, kinds := [], alts := [], laidByText := true, laidKinds := [.data], laidTests := true, laidLooks := .later }
def NestTellsCardSaid : Prop := Claim7.holds Tryd.pinned (.plain (OpenSpec.ofChange nestTellsSpec)) nestTellsCard

/-- THE TIED CARD OF 'watersmeetlaw14.NestParts'. -/
def nestPartsCard : Claim7 := { stood := { row := nestPartsRow, standIns := [], harness := (true, "37c6dedefe689dc41a685674ac81ea4ca8abebfafe090983d0483ac683a1a8bb"), looks := false }, kinds := [], alts := [], laidByText := true, laidKinds := [.data], laidTests := true, laidLooks := .later }
def NestPartsCardSaid : Prop := Claim7.holds Tryd.pinned (.plain (OpenSpec.ofChange nestPartsSpec)) nestPartsCard

/-- THE SECOND FORM's CARD OF 'watersmeetlaw14.NestTells'. -/
def nestTellsUptoCard : Claim7 := { stood := { row := nestTellsUptoRow, standIns := [], harness := (true, "37c6dedefe689dc41a685674ac81ea4ca8abebfafe090983d0483ac683a1a8bb"), looks := false }, kinds := [], alts := [], laidByText := true, laidKinds := [.data], laidTests := true, laidLooks := .later }
def NestTellsUptoCardSaid : Prop := Claim7.holds Tryd.pinned (.plain (OpenSpec.upto nestTellsSpec)) nestTellsUptoCard

/-- THE SECOND FORM's CARD OF 'watersmeetlaw14.NestParts'. -/
def nestPartsUptoCard : Claim7 := { stood := { row := nestPartsUptoRow, standIns := [], harness := (true, "37c6dedefe689dc41a685674ac81ea4ca8abebfafe090983d0483ac683a1a8bb"), looks := false }, kinds := [], alts := [], laidByText := true, laidKinds := [.data], laidTests := true, laidLooks := .later }
def NestPartsUptoCardSaid : Prop := Claim7.holds Tryd.pinned (.plain (OpenSpec.upto nestPartsSpec)) nestPartsUptoCard
end Rows
end Go.Proofs.YtokjhlmpegogcaaDoor
