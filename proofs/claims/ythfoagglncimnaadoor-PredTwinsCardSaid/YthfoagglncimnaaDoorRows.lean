/-
  NARROWER THAN 'FOR EVERY INPUT', by the rows' own cells (each row's printed sentence says how): PredTells: loops, laid · PredTwins: loops, laid · PredTurns: loops, laid.
  DERIVED. THE GIVEN ROWS OF THIS SEAT. 3 by the template 'for every input the law returns true; each argument reads behind the call as it read before'; 0 by the template 'total and deterministic' (their statements: YthfoagglncimnaaDoorTotals.lean).
  GIVEN WITH THE SEED: the statements are not yours to turn. If you find one false, say at which input.
  Laid BY PROGRAM, IN A SANDBOX (cutbox-rows.mjs): the forced cells as the released guide's own fill.sh prints them over the translation 605b68d462b3e7c1… (all of the seat's roots in one cut). By AI agents, Wed Nov 11 2026. No macro, syntax, notation, axiom, sorry.
-/
import Derived.Test.YthfoagglncimnaaDoorChecked
import GoSem.Claim
import GoSem.ClaimJoined
import GoSem.ClaimMapViews
import Derived.JoinedTies
import Derived.KernelRfl
namespace Go.Proofs.YthfoagglncimnaaDoor
/- THE CELL 'sum', in the pinned program and in every row, IS THE sha256 OF THE DUMP (.gsa) THAT YthfoagglncimnaaDoorProg.lean LOADS. Nothing in Lean hashes anything: it is a label: what it is worth is what the hold of that sum in a sandbox is worth. -/
noncomputable def Tryd.pinned : Pinned := { name := "ythfoagglncimnaadoor", sum := "605b68d462b3e7c1d15b8432f155845b3499f093acc9dd7d80fbc390893d564a", checked := Tryd.checked }
namespace Rows
def none {H : Type} : Left H := { results := [], args := [] }

/- WHAT THE LISTED PACKAGE-LEVEL VARIABLES READ AS WHEN THE CALL BEGINS. Each datum BY PROGRAM (the guide's laid-datum.mjs) off the statement by which the dump's own 'gosem.cut.vars' lays the variable. In a bare row this is a premise. The card (YthfoagglncimnaaDoorCards.lean) ties it to the program's text. -/
def laid_watersmeet_value_wants {H : Type} : DataW H := .agg [.agg [.lit (.bool false), .lit (.bool false), .lit (.bool false)], .agg [.lit (.bool false), .lit (.bool true), .lit (.bool false)], .agg [.lit (.bool true), .lit (.bool false), .lit (.bool true)], .agg [.lit (.bool true), .lit (.bool false), .lit (.bool false)], .agg [.lit (.bool true), .lit (.bool true), .lit (.bool false)], .agg [.lit (.bool false), .lit (.bool false), .lit (.bool true)], .agg [.lit (.bool false), .lit (.bool true), .lit (.bool true)]]

/-- 'watersmeetlaw06.PredTells': WHATEVER THE INPUT: true; the input reads as it did. -/
def predTellsSpec : ChangeSpec := { name := "predTells", fn := fun _ => fun
  | [d1, d2, d3] => { results := [.lit (.bool true)], args := [d1, d2, d3] }
  | _ => none }
def predTellsRow : OpenClaim := { program := "ythfoagglncimnaadoor", sum := "605b68d462b3e7c1d15b8432f155845b3499f093acc9dd7d80fbc390893d564a", func := "watersmeet/watersmeetlaw06.PredTells", spec := "predTells", unfollowed := true, recurses := true, named := ["watersmeet/value.wants"], loops := true, apart := false, laid := [("watersmeet/value.wants", laid_watersmeet_value_wants)] }
def PredTellsSaid : Prop := predTellsRow.holds Tryd.pinned (OpenSpec.ofChange predTellsSpec)

/-- ITS FALSE NEIGHBOUR: 'it returns false'. Refute it at one input. -/
def predTellsWrong : ChangeSpec := { name := "predTells", fn := fun _ => fun
  | [d1, d2, d3] => { results := [.lit (.bool false)], args := [d1, d2, d3] }
  | _ => none }
def PredTellsWrongFalsely : Prop := predTellsRow.holds Tryd.pinned (OpenSpec.ofChange predTellsWrong)

/-- 'watersmeetlaw06.PredTwins': WHATEVER THE INPUT: true; the input reads as it did. -/
def predTwinsSpec : ChangeSpec := { name := "predTwins", fn := fun _ => fun
  | [d1, d2, d3] => { results := [.lit (.bool true)], args := [d1, d2, d3] }
  | _ => none }
def predTwinsRow : OpenClaim := { program := "ythfoagglncimnaadoor", sum := "605b68d462b3e7c1d15b8432f155845b3499f093acc9dd7d80fbc390893d564a", func := "watersmeet/watersmeetlaw06.PredTwins", spec := "predTwins", unfollowed := true, recurses := true, named := ["watersmeet/value.wants"], loops := true, apart := false, laid := [("watersmeet/value.wants", laid_watersmeet_value_wants)] }
def PredTwinsSaid : Prop := predTwinsRow.holds Tryd.pinned (OpenSpec.ofChange predTwinsSpec)

/-- ITS FALSE NEIGHBOUR: 'it returns false'. Refute it at one input. -/
def predTwinsWrong : ChangeSpec := { name := "predTwins", fn := fun _ => fun
  | [d1, d2, d3] => { results := [.lit (.bool false)], args := [d1, d2, d3] }
  | _ => none }
def PredTwinsWrongFalsely : Prop := predTwinsRow.holds Tryd.pinned (OpenSpec.ofChange predTwinsWrong)

/-- 'watersmeetlaw06.PredTurns': WHATEVER THE INPUT: true; the input reads as it did. -/
def predTurnsSpec : ChangeSpec := { name := "predTurns", fn := fun _ => fun
  | [d1, d2, d3] => { results := [.lit (.bool true)], args := [d1, d2, d3] }
  | _ => none }
def predTurnsRow : OpenClaim := { program := "ythfoagglncimnaadoor", sum := "605b68d462b3e7c1d15b8432f155845b3499f093acc9dd7d80fbc390893d564a", func := "watersmeet/watersmeetlaw06.PredTurns", spec := "predTurns", unfollowed := true, recurses := true, named := ["watersmeet/value.wants"], loops := true, apart := false, laid := [("watersmeet/value.wants", laid_watersmeet_value_wants)] }
def PredTurnsSaid : Prop := predTurnsRow.holds Tryd.pinned (OpenSpec.ofChange predTurnsSpec)

/-- ITS FALSE NEIGHBOUR: 'it returns false'. Refute it at one input. -/
def predTurnsWrong : ChangeSpec := { name := "predTurns", fn := fun _ => fun
  | [d1, d2, d3] => { results := [.lit (.bool false)], args := [d1, d2, d3] }
  | _ => none }
def PredTurnsWrongFalsely : Prop := predTurnsRow.holds Tryd.pinned (OpenSpec.ofChange predTurnsWrong)

/- THE SECOND FORM. 'bulk': how many values and letters a reading holds, each counted each time it is reached (what is shared counts as often as it is met; a slice's spare places count too). A statement '..UptoSaid' is the law's where the arguments, and the package variables that the reading takes, are together of bulk at most 1048576: NARROWER than '..Said'. Prove '..Said' where nothing that the law and all that it calls make is longer than what came in: it says more and counts as full. Else prove '..UptoSaid'. A law counts once. -/
mutual
def uptoBulk {H : Type} : DataW H → Nat
  | .lit (.string bytes) => bytes.length + 1
  | .lit _ => 1
  | .nil => 1
  | .ptr d => uptoBulk d + 1
  | .slice elems spare => uptoBulkAll elems + uptoBulkAll spare + 1
  | .agg parts => uptoBulkAll parts + 1
  | .iface _ d => uptoBulk d + 1
  | .map entries => uptoBulkEntries entries + 1
  | .held _ => 1
def uptoBulkAll {H : Type} : List (DataW H) → Nat
  | [] => 0
  | d :: r => uptoBulk d + uptoBulkAll r
def uptoBulkEntries {H : Type} : List (Lit × DataW H) → Nat
  | [] => 0
  | x :: r => uptoBulkEntry x + uptoBulkEntries r
def uptoBulkEntry {H : Type} : Lit × DataW H → Nat
  | (.string bytes, d) => bytes.length + uptoBulk d + 1
  | (_, d) => uptoBulk d + 1
 end
def uptoSmall : (H : Type) → List (DataW H) → Bool := fun _ ds => decide (uptoBulkAll ds ≤ 1048576)
def OpenSpec.upto (s : _root_.Go.ChangeSpec) : _root_.Go.OpenSpec := { _root_.Go.OpenSpec.ofChange s with cond := some uptoSmall }

/-- 'watersmeetlaw06.PredTells', WHERE WHAT IT READS IS OF BULK AT MOST 1048576: true; the input reads as it did. -/
def predTellsUptoRow : OpenClaim := { program := "ythfoagglncimnaadoor", sum := "605b68d462b3e7c1d15b8432f155845b3499f093acc9dd7d80fbc390893d564a", func := "watersmeet/watersmeetlaw06.PredTells", spec := "predTells", unfollowed := true, recurses := true, named := ["watersmeet/value.wants"], loops := true, apart := false, laid := [("watersmeet/value.wants", laid_watersmeet_value_wants)], narrowed := true }
def PredTellsUptoSaid : Prop := predTellsUptoRow.holds Tryd.pinned (OpenSpec.upto predTellsSpec)

/-- 'watersmeetlaw06.PredTwins', WHERE WHAT IT READS IS OF BULK AT MOST 1048576: true; the input reads as it did. -/
def predTwinsUptoRow : OpenClaim := { program := "ythfoagglncimnaadoor", sum := "605b68d462b3e7c1d15b8432f155845b3499f093acc9dd7d80fbc390893d564a", func := "watersmeet/watersmeetlaw06.PredTwins", spec := "predTwins", unfollowed := true, recurses := true, named := ["watersmeet/value.wants"], loops := true, apart := false, laid := [("watersmeet/value.wants", laid_watersmeet_value_wants)], narrowed := true }
def PredTwinsUptoSaid : Prop := predTwinsUptoRow.holds Tryd.pinned (OpenSpec.upto predTwinsSpec)

/-- 'watersmeetlaw06.PredTurns', WHERE WHAT IT READS IS OF BULK AT MOST 1048576: true; the input reads as it did. -/
def predTurnsUptoRow : OpenClaim := { program := "ythfoagglncimnaadoor", sum := "605b68d462b3e7c1d15b8432f155845b3499f093acc9dd7d80fbc390893d564a", func := "watersmeet/watersmeetlaw06.PredTurns", spec := "predTurns", unfollowed := true, recurses := true, named := ["watersmeet/value.wants"], loops := true, apart := false, laid := [("watersmeet/value.wants", laid_watersmeet_value_wants)], narrowed := true }
def PredTurnsUptoSaid : Prop := predTurnsUptoRow.holds Tryd.pinned (OpenSpec.upto predTurnsSpec)

end Rows
end Go.Proofs.YthfoagglncimnaaDoor
