/-
  DERIVED. GIVEN WITH THE SEED: THE CARDS: each row of YtbddhkgbpjhhaaaGreatDoorRows.lean that lists a variable, with what it lists TIED to the program's text (the seventh form; the later family's looks); each row that meets fmt, with fmt's text TOLD by the authors' own Lean function (tested against real Go, not proved from fmt's source: count such statements apart). THE CARD IS WHAT COUNTS. Prove the row's statement (the work); the ties are given (YtbddhkgbpjhhaaaGreatDoorTie.lean); close each card by the builder's one call (the guide's Derived/Test/ToyasCard.lean, 'card_holds'). Laid BY PROGRAM, IN A SANDBOX (cutbox-door.mjs). By AI agents, Wed Nov 11 2026. No macro, syntax, notation, axiom, sorry.
-/
import Derived.Test.YtbddhkgbpjhhaaaGreatDoorRows
import GoSem.ClaimSeven
namespace Go.Proofs.YtbddhkgbpjhhaaaGreatDoor
namespace Rows

/-- THE TIED CARD OF 'watersmeetlaw17.IdentHolds'. -/
def identHoldsCard : Claim7 := { stood := { row := identHoldsRow, standIns := [], harness := (true, "957591c6844ff30f63d68bb434b8758a4a64cd5f901c5c7e681b05b932fe9279"), looks := false }, kinds := [], alts := [], laidByText := true, laidKinds := [.data, .data, .data, .data, .data], laidTests := true, laidLooks := .later }
def IdentHoldsCardSaid : Prop := Claim7.holds Tryz.pinned (.plain (OpenSpec.ofChange identHoldsSpec)) identHoldsCard

/-- THE TIED CARD OF 'watersmeetlaw17.IdentBack'. -/
def identBackCard : Claim7 := { stood := { row := identBackRow, standIns := [], harness := (true, "957591c6844ff30f63d68bb434b8758a4a64cd5f901c5c7e681b05b932fe9279"), looks := false }, kinds := [], alts := [], laidByText := true, laidKinds := [.data, .data], laidTests := true, laidLooks := .later }
def IdentBackCardSaid : Prop := Claim7.holds Tryz.pinned (.plain (OpenSpec.ofChange identBackSpec)) identBackCard

/-- THE SECOND FORM's CARD OF 'watersmeetlaw17.IdentHolds'. -/
def identHoldsUptoCard : Claim7 := { stood := { row := identHoldsUptoRow, standIns := [], harness := (true, "957591c6844ff30f63d68bb434b8758a4a64cd5f901c5c7e681b05b932fe9279"), looks := false }, kinds := [], alts := [], laidByText := true, laidKinds := [.data, .data, .data, .data, .data], laidTests := true, laidLooks := .later }
def IdentHoldsUptoCardSaid : Prop := Claim7.holds Tryz.pinned (.plain (OpenSpec.upto identHoldsSpec)) identHoldsUptoCard

/-- THE SECOND FORM's CARD OF 'watersmeetlaw17.IdentBack'. -/
def identBackUptoCard : Claim7 := { stood := { row := identBackUptoRow, standIns := [], harness := (true, "957591c6844ff30f63d68bb434b8758a4a64cd5f901c5c7e681b05b932fe9279"), looks := false }, kinds := [], alts := [], laidByText := true, laidKinds := [.data, .data], laidTests := true, laidLooks := .later }
def IdentBackUptoCardSaid : Prop := Claim7.holds Tryz.pinned (.plain (OpenSpec.upto identBackSpec)) identBackUptoCard
end Rows
end Go.Proofs.YtbddhkgbpjhhaaaGreatDoor
