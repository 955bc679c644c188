/-
  DERIVED. GIVEN WITH THE SEED: THE CARDS: each row of YtdlmpaipphjdpaaDoorRows.lean that lists a variable, with what it lists TIED to the program's text (the seventh form; the later family's looks); each row that meets fmt, with fmt's text TOLD by the authors' own Lean function (tested against real Go, not proved from fmt's source: count such statements apart). THE CARD IS WHAT COUNTS. Prove the row's statement (the work); the ties are given (YtdlmpaipphjdpaaDoorTie.lean); close each card by the builder's one call (the guide's Derived/Test/ToyasCard.lean, 'card_holds'). Laid BY PROGRAM, IN A SANDBOX (cutbox-door.mjs). By AI agents, Wed Nov 11 2026. No macro, syntax, notation, axiom, sorry.
-/
import Derived.Test.YtdlmpaipphjdpaaDoorRows
import GoSem.ClaimSeven
namespace Go.Proofs.YtdlmpaipphjdpaaDoor
namespace Rows

/-- THE TIED CARD OF 'watersmeetlaw13.MatchTells'. -/
def matchTellsCard : Claim7 := { stood := { row := matchTellsRow, standIns := [], harness := (true, "b57dec1252a3c1d2922191135c91aa4d211d49529501bc98d9eb70185ba2f576"), looks := false }, kinds := [], alts := [], laidByText := true, laidKinds := [.data, .data], laidTests := true, laidLooks := .later }
def MatchTellsCardSaid : Prop := Claim7.holds Tryd.pinned (.plain (OpenSpec.ofChange matchTellsSpec)) matchTellsCard

/-- THE TIED CARD OF 'watersmeetlaw13.MatchKinds'. -/
def matchKindsCard : Claim7 := { stood := { row := matchKindsRow, standIns := [], harness := (true, "b57dec1252a3c1d2922191135c91aa4d211d49529501bc98d9eb70185ba2f576"), looks := false }, kinds := [], alts := [], laidByText := true, laidKinds := [.data, .data], laidTests := true, laidLooks := .later }
def MatchKindsCardSaid : Prop := Claim7.holds Tryd.pinned (.plain (OpenSpec.ofChange matchKindsSpec)) matchKindsCard

/-- THE TIED CARD OF 'watersmeetlaw13.MatchFlat'. -/
def matchFlatCard : Claim7 := { stood := { row := matchFlatRow, standIns := [], harness := (true, "b57dec1252a3c1d2922191135c91aa4d211d49529501bc98d9eb70185ba2f576"), looks := false }, kinds := [], alts := [], laidByText := true, laidKinds := [.data, .data], laidTests := true, laidLooks := .later }
def MatchFlatCardSaid : Prop := Claim7.holds Tryd.pinned (.plain (OpenSpec.ofChange matchFlatSpec)) matchFlatCard

/-- THE SECOND FORM's CARD OF 'watersmeetlaw13.MatchTells'. -/
def matchTellsUptoCard : Claim7 := { stood := { row := matchTellsUptoRow, standIns := [], harness := (true, "b57dec1252a3c1d2922191135c91aa4d211d49529501bc98d9eb70185ba2f576"), looks := false }, kinds := [], alts := [], laidByText := true, laidKinds := [.data, .data], laidTests := true, laidLooks := .later }
def MatchTellsUptoCardSaid : Prop := Claim7.holds Tryd.pinned (.plain (OpenSpec.upto matchTellsSpec)) matchTellsUptoCard

/-- THE SECOND FORM's CARD OF 'watersmeetlaw13.MatchKinds'. -/
def matchKindsUptoCard : Claim7 := { stood := { row := matchKindsUptoRow, standIns := [], harness := (true, "b57dec1252a3c1d2922191135c91aa4d211d49529501bc98d9eb70185ba2f576"), looks := false }, kinds := [], alts := [], laidByText := true, laidKinds := [.data, .data], laidTests := true, laidLooks := .later }
def MatchKindsUptoCardSaid : Prop := Claim7.holds Tryd.pinned (.plain (OpenSpec.upto matchKindsSpec)) matchKindsUptoCard

/-- THE SECOND FORM's CARD OF 'watersmeetlaw13.MatchFlat'. -/
def matchFlatUptoCard : Claim7 := { stood := { row := matchFlatUptoRow, standIns := [], harness := (true, "b57dec1252a3c1d2922191135c91aa4d211d49529501bc98d9eb70185ba2f576"), looks := false }, kinds := [], alts := [], laidByText := true, laidKinds := [.data, .data], laidTests := true, laidLooks := .later }
def MatchFlatUptoCardSaid : Prop := Claim7.holds Tryd.pinned (.plain (OpenSpec.upto matchFlatSpec)) matchFlatUptoCard
end Rows
end Go.Proofs.YtdlmpaipphjdpaaDoor
