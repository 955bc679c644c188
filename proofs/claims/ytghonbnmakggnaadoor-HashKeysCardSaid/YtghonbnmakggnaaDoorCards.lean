/-
  DERIVED. GIVEN WITH THE SEED: THE CARDS: each row of YtghonbnmakggnaaDoorRows.lean that lists a variable, with what it lists TIED to the program's text (the seventh form; the later family's looks); each row that meets fmt, with fmt's text TOLD by the authors' own Lean function (tested against real Go, not proved from fmt's source: count such statements apart). THE CARD IS WHAT COUNTS. Prove the row's statement (the work); the ties are given (YtghonbnmakggnaaDoorTie.lean); close each card by the builder's one call (the guide's Derived/Test/ToyasCard.lean, 'card_holds'). Laid BY PROGRAM, IN A SANDBOX (cutbox-door.mjs). By AI agents, Wed Nov 11 2026. No macro, syntax, notation, axiom, sorry.
-/
import Derived.Test.YtghonbnmakggnaaDoorRows
import GoSem.ClaimSeven
namespace Go.Proofs.YtghonbnmakggnaaDoor
namespace Rows

/-- THE TIED CARD OF 'watersmeetlaw15.HashKeys'. -/
def hashKeysCard : Claim7 := { stood := { row := hashKeysRow, standIns := [], harness := (true, "11f9ff8ee6c7be42054498e088b4dc69f6628e4b3c37da3c53d19004ca855a31"), looks := false }, kinds := [], alts := [], laidByText := true, laidKinds := [.data, .data, .data, .data], laidTests := true, laidLooks := .later }
def HashKeysCardSaid : Prop := Claim7.holds Tryd.pinned (.plain (OpenSpec.ofChange hashKeysSpec)) hashKeysCard

/-- THE TIED CARD OF 'watersmeetlaw15.HashSame'. -/
def hashSameCard : Claim7 := { stood := { row := hashSameRow, standIns := [], harness := (true, "11f9ff8ee6c7be42054498e088b4dc69f6628e4b3c37da3c53d19004ca855a31"), looks := false }, kinds := [], alts := [], laidByText := true, laidKinds := [.data, .data, .data, .data], laidTests := true, laidLooks := .later }
def HashSameCardSaid : Prop := Claim7.holds Tryd.pinned (.plain (OpenSpec.ofChange hashSameSpec)) hashSameCard

/-- THE SECOND FORM's CARD OF 'watersmeetlaw15.HashKeys'. -/
def hashKeysUptoCard : Claim7 := { stood := { row := hashKeysUptoRow, standIns := [], harness := (true, "11f9ff8ee6c7be42054498e088b4dc69f6628e4b3c37da3c53d19004ca855a31"), looks := false }, kinds := [], alts := [], laidByText := true, laidKinds := [.data, .data, .data, .data], laidTests := true, laidLooks := .later }
def HashKeysUptoCardSaid : Prop := Claim7.holds Tryd.pinned (.plain (OpenSpec.upto hashKeysSpec)) hashKeysUptoCard

/-- THE SECOND FORM's CARD OF 'watersmeetlaw15.HashSame'. -/
def hashSameUptoCard : Claim7 := { stood := { row := hashSameUptoRow, standIns := [], harness := (true, "11f9ff8ee6c7be42054498e088b4dc69f6628e4b3c37da3c53d19004ca855a31"), looks := false }, kinds := [], alts := [], laidByText := true, laidKinds := [.data, .data, .data, .data], laidTests := true, laidLooks := .later }
def HashSameUptoCardSaid : Prop := Claim7.holds Tryd.pinned (.plain (OpenSpec.upto hashSameSpec)) hashSameUptoCard
end Rows
end Go.Proofs.YtghonbnmakggnaaDoor
