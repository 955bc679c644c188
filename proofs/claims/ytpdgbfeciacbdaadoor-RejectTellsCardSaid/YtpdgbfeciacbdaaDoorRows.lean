/-
  NARROWER THAN 'FOR EVERY INPUT', by the rows' own cells (each row's printed sentence says how): RejectTells: loops, laid · RejectMeans: loops, laid · RejectGrows: loops, laid.
  DERIVED. THE GIVEN ROWS OF THIS SEAT. 3 by the template 'for every input the law returns true; each argument reads behind the call as it read before'; 0 by the template 'total and deterministic' (their statements: YtpdgbfeciacbdaaDoorTotals.lean).
  GIVEN WITH THE SEED: the statements are not yours to turn. If you find one false, say at which input.
  Laid BY PROGRAM, IN A SANDBOX (cutbox-rows.mjs): the forced cells as the released guide's own fill.sh prints them over the translation 14615d73ce1c4f38… (all of the seat's roots in one cut). By AI agents, Wed Nov 11 2026. No macro, syntax, notation, axiom, sorry.
-/
import Derived.Test.YtpdgbfeciacbdaaDoorChecked
import GoSem.Claim
import GoSem.ClaimJoined
import GoSem.ClaimMapViews
import Derived.JoinedTies
import Derived.KernelRfl
namespace Go.Proofs.YtpdgbfeciacbdaaDoor
/- THE CELL 'sum', in the pinned program and in every row, IS THE sha256 OF THE DUMP (.gsa) THAT YtpdgbfeciacbdaaDoorProg.lean LOADS. Nothing in Lean hashes anything: it is a label: what it is worth is what the hold of that sum in a sandbox is worth. -/
noncomputable def Tryd.pinned : Pinned := { name := "ytpdgbfeciacbdaadoor", sum := "14615d73ce1c4f388b94d6e4f128f8dcdf686116f2c563482549d87cd527fe4b", checked := Tryd.checked }
namespace Rows
def none {H : Type} : Left H := { results := [], args := [] }

/- WHAT THE LISTED PACKAGE-LEVEL VARIABLES READ AS WHEN THE CALL BEGINS. Each datum BY PROGRAM (the guide's laid-datum.mjs) off the statement by which the dump's own 'gosem.cut.vars' lays the variable. In a bare row this is a premise. The card (YtpdgbfeciacbdaaDoorCards.lean) ties it to the program's text. -/
def laid_watersmeet_value_wants {H : Type} : DataW H := .agg [.agg [.lit (.bool false), .lit (.bool false), .lit (.bool false)], .agg [.lit (.bool false), .lit (.bool true), .lit (.bool false)], .agg [.lit (.bool true), .lit (.bool false), .lit (.bool true)], .agg [.lit (.bool true), .lit (.bool false), .lit (.bool false)], .agg [.lit (.bool true), .lit (.bool true), .lit (.bool false)], .agg [.lit (.bool false), .lit (.bool false), .lit (.bool true)], .agg [.lit (.bool false), .lit (.bool true), .lit (.bool true)]]

/-- 'watersmeetlaw07.RejectTells': WHATEVER THE INPUT: true; the input reads as it did. -/
def rejectTellsSpec : ChangeSpec := { name := "rejectTells", fn := fun _ => fun
  | [d1, d2] => { results := [.lit (.bool true)], args := [d1, d2] }
  | _ => none }
def rejectTellsRow : OpenClaim := { program := "ytpdgbfeciacbdaadoor", sum := "14615d73ce1c4f388b94d6e4f128f8dcdf686116f2c563482549d87cd527fe4b", func := "watersmeet/watersmeetlaw07.RejectTells", spec := "rejectTells", unfollowed := true, recurses := true, named := ["watersmeet/value.wants"], loops := true, apart := false, laid := [("watersmeet/value.wants", laid_watersmeet_value_wants)] }
def RejectTellsSaid : Prop := rejectTellsRow.holds Tryd.pinned (OpenSpec.ofChange rejectTellsSpec)

/-- ITS FALSE NEIGHBOUR: 'it returns false'. Refute it at one input. -/
def rejectTellsWrong : ChangeSpec := { name := "rejectTells", fn := fun _ => fun
  | [d1, d2] => { results := [.lit (.bool false)], args := [d1, d2] }
  | _ => none }
def RejectTellsWrongFalsely : Prop := rejectTellsRow.holds Tryd.pinned (OpenSpec.ofChange rejectTellsWrong)

/-- 'watersmeetlaw07.RejectMeans': WHATEVER THE INPUT: true; the input reads as it did. -/
def rejectMeansSpec : ChangeSpec := { name := "rejectMeans", fn := fun _ => fun
  | [d1, d2, d3] => { results := [.lit (.bool true)], args := [d1, d2, d3] }
  | _ => none }
def rejectMeansRow : OpenClaim := { program := "ytpdgbfeciacbdaadoor", sum := "14615d73ce1c4f388b94d6e4f128f8dcdf686116f2c563482549d87cd527fe4b", func := "watersmeet/watersmeetlaw07.RejectMeans", spec := "rejectMeans", unfollowed := true, recurses := true, named := ["watersmeet/value.wants"], loops := true, apart := false, laid := [("watersmeet/value.wants", laid_watersmeet_value_wants)] }
def RejectMeansSaid : Prop := rejectMeansRow.holds Tryd.pinned (OpenSpec.ofChange rejectMeansSpec)

/-- ITS FALSE NEIGHBOUR: 'it returns false'. Refute it at one input. -/
def rejectMeansWrong : ChangeSpec := { name := "rejectMeans", fn := fun _ => fun
  | [d1, d2, d3] => { results := [.lit (.bool false)], args := [d1, d2, d3] }
  | _ => none }
def RejectMeansWrongFalsely : Prop := rejectMeansRow.holds Tryd.pinned (OpenSpec.ofChange rejectMeansWrong)

/-- 'watersmeetlaw07.RejectGrows': WHATEVER THE INPUT: true; the input reads as it did. -/
def rejectGrowsSpec : ChangeSpec := { name := "rejectGrows", fn := fun _ => fun
  | [d1, d2, d3] => { results := [.lit (.bool true)], args := [d1, d2, d3] }
  | _ => none }
def rejectGrowsRow : OpenClaim := { program := "ytpdgbfeciacbdaadoor", sum := "14615d73ce1c4f388b94d6e4f128f8dcdf686116f2c563482549d87cd527fe4b", func := "watersmeet/watersmeetlaw07.RejectGrows", spec := "rejectGrows", unfollowed := true, recurses := true, named := ["watersmeet/value.wants"], loops := true, apart := false, laid := [("watersmeet/value.wants", laid_watersmeet_value_wants)] }
def RejectGrowsSaid : Prop := rejectGrowsRow.holds Tryd.pinned (OpenSpec.ofChange rejectGrowsSpec)

/-- ITS FALSE NEIGHBOUR: 'it returns false'. Refute it at one input. -/
def rejectGrowsWrong : ChangeSpec := { name := "rejectGrows", fn := fun _ => fun
  | [d1, d2, d3] => { results := [.lit (.bool false)], args := [d1, d2, d3] }
  | _ => none }
def RejectGrowsWrongFalsely : Prop := rejectGrowsRow.holds Tryd.pinned (OpenSpec.ofChange rejectGrowsWrong)

/- THE SECOND FORM. 'bulk': how many values and letters a reading holds, each counted each time it is reached (what is shared counts as often as it is met; a slice's spare places count too). A statement '..UptoSaid' is the law's where the arguments, and the package variables that the reading takes, are together of bulk at most 1048576: NARROWER than '..Said'. Prove '..Said' where nothing that the law and all that it calls make is longer than what came in: it says more and counts as full. Else prove '..UptoSaid'. A law counts once. -/
mutual
def uptoBulk {H : Type} : DataW H → Nat
  | .lit (.string bytes) => bytes.length + 1
  | .lit _ => 1
  | .nil => 1
  | .ptr d => uptoBulk d + 1
  | .slice elems spare => uptoBulkAll elems + uptoBulkAll spare + 1
  | .agg parts => uptoBulkAll parts + 1
  | .iface _ d => uptoBulk d + 1
  | .map entries => uptoBulkEntries entries + 1
  | .held _ => 1
def uptoBulkAll {H : Type} : List (DataW H) → Nat
  | [] => 0
  | d :: r => uptoBulk d + uptoBulkAll r
def uptoBulkEntries {H : Type} : List (Lit × DataW H) → Nat
  | [] => 0
  | x :: r => uptoBulkEntry x + uptoBulkEntries r
def uptoBulkEntry {H : Type} : Lit × DataW H → Nat
  | (.string bytes, d) => bytes.length + uptoBulk d + 1
  | (_, d) => uptoBulk d + 1
 end
def uptoSmall : (H : Type) → List (DataW H) → Bool := fun _ ds => decide (uptoBulkAll ds ≤ 1048576)
def OpenSpec.upto (s : _root_.Go.ChangeSpec) : _root_.Go.OpenSpec := { _root_.Go.OpenSpec.ofChange s with cond := some uptoSmall }

/-- 'watersmeetlaw07.RejectTells', WHERE WHAT IT READS IS OF BULK AT MOST 1048576: true; the input reads as it did. -/
def rejectTellsUptoRow : OpenClaim := { program := "ytpdgbfeciacbdaadoor", sum := "14615d73ce1c4f388b94d6e4f128f8dcdf686116f2c563482549d87cd527fe4b", func := "watersmeet/watersmeetlaw07.RejectTells", spec := "rejectTells", unfollowed := true, recurses := true, named := ["watersmeet/value.wants"], loops := true, apart := false, laid := [("watersmeet/value.wants", laid_watersmeet_value_wants)], narrowed := true }
def RejectTellsUptoSaid : Prop := rejectTellsUptoRow.holds Tryd.pinned (OpenSpec.upto rejectTellsSpec)

/-- 'watersmeetlaw07.RejectMeans', WHERE WHAT IT READS IS OF BULK AT MOST 1048576: true; the input reads as it did. -/
def rejectMeansUptoRow : OpenClaim := { program := "ytpdgbfeciacbdaadoor", sum := "14615d73ce1c4f388b94d6e4f128f8dcdf686116f2c563482549d87cd527fe4b", func := "watersmeet/watersmeetlaw07.RejectMeans", spec := "rejectMeans", unfollowed := true, recurses := true, named := ["watersmeet/value.wants"], loops := true, apart := false, laid := [("watersmeet/value.wants", laid_watersmeet_value_wants)], narrowed := true }
def RejectMeansUptoSaid : Prop := rejectMeansUptoRow.holds Tryd.pinned (OpenSpec.upto rejectMeansSpec)

/-- 'watersmeetlaw07.RejectGrows', WHERE WHAT IT READS IS OF BULK AT MOST 1048576: true; the input reads as it did. -/
def rejectGrowsUptoRow : OpenClaim := { program := "ytpdgbfeciacbdaadoor", sum := "14615d73ce1c4f388b94d6e4f128f8dcdf686116f2c563482549d87cd527fe4b", func := "watersmeet/watersmeetlaw07.RejectGrows", spec := "rejectGrows", unfollowed := true, recurses := true, named := ["watersmeet/value.wants"], loops := true, apart := false, laid := [("watersmeet/value.wants", laid_watersmeet_value_wants)], narrowed := true }
def RejectGrowsUptoSaid : Prop := rejectGrowsUptoRow.holds Tryd.pinned (OpenSpec.upto rejectGrowsSpec)

end Rows
end Go.Proofs.YtpdgbfeciacbdaaDoor
