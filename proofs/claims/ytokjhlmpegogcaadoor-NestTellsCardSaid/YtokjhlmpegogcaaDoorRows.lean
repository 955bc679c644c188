/-
  NARROWER THAN 'FOR EVERY INPUT', by the rows' own cells (each row's printed sentence says how): NestTells: loops, laid · NestParts: loops, laid.
  DERIVED. THE GIVEN ROWS OF THIS SEAT. 2 by the template 'for every input the law returns true; each argument reads behind the call as it read before'; 0 by the template 'total and deterministic' (their statements: YtokjhlmpegogcaaDoorTotals.lean).
  GIVEN WITH THE SEED: the statements are not yours to turn. If you find one false, say at which input.
  Laid BY PROGRAM, IN A SANDBOX (cutbox-rows.mjs): the forced cells as the released guide's own fill.sh prints them over the translation ea2f6b3f5782f636… (all of the seat's roots in one cut). By AI agents, Wed Nov 11 2026. No macro, syntax, notation, axiom, sorry.
-/
import Derived.Test.YtokjhlmpegogcaaDoorChecked
import GoSem.Claim
import GoSem.ClaimJoined
import GoSem.ClaimMapViews
import Derived.JoinedTies
import Derived.KernelRfl
namespace Go.Proofs.YtokjhlmpegogcaaDoor
/- THE CELL 'sum', in the pinned program and in every row, IS THE sha256 OF THE DUMP (.gsa) THAT YtokjhlmpegogcaaDoorProg.lean LOADS. Nothing in Lean hashes anything: it is a label: what it is worth is what the hold of that sum in a sandbox is worth. -/
noncomputable def Tryd.pinned : Pinned := { name := "ytokjhlmpegogcaadoor", sum := "ea2f6b3f5782f636544b2fa90e2d204aec3bd8988a8f513ab314532bf0a4e5b2", checked := Tryd.checked }
namespace Rows
def none {H : Type} : Left H := { results := [], args := [] }

/- WHAT THE LISTED PACKAGE-LEVEL VARIABLES READ AS WHEN THE CALL BEGINS. Each datum BY PROGRAM (the guide's laid-datum.mjs) off the statement by which the dump's own 'gosem.cut.vars' lays the variable. In a bare row this is a premise. The card (YtokjhlmpegogcaaDoorCards.lean) ties it to the program's text. -/
def laid_watersmeet_value_wants {H : Type} : DataW H := .agg [.agg [.lit (.bool false), .lit (.bool false), .lit (.bool false)], .agg [.lit (.bool false), .lit (.bool true), .lit (.bool false)], .agg [.lit (.bool true), .lit (.bool false), .lit (.bool true)], .agg [.lit (.bool true), .lit (.bool false), .lit (.bool false)], .agg [.lit (.bool true), .lit (.bool true), .lit (.bool false)], .agg [.lit (.bool false), .lit (.bool false), .lit (.bool true)], .agg [.lit (.bool false), .lit (.bool true), .lit (.bool true)]]

/-- 'watersmeetlaw14.NestTells': WHATEVER THE INPUT: true; the input reads as it did. -/
def nestTellsSpec : ChangeSpec := { name := "nestTells", fn := fun _ => fun
  | [d1, d2, d3] => { results := [.lit (.bool true)], args := [d1, d2, d3] }
  | _ => none }
def nestTellsRow : OpenClaim := { program := "ytokjhlmpegogcaadoor", sum := "ea2f6b3f5782f636544b2fa90e2d204aec3bd8988a8f513ab314532bf0a4e5b2", func := "watersmeet/watersmeetlaw14.NestTells", spec := "nestTells", unfollowed := true, recurses := true, named := ["watersmeet/value.wants"], loops := true, apart := false, laid := [("watersmeet/value.wants", laid_watersmeet_value_wants)] }
def NestTellsSaid : Prop := nestTellsRow.holds Tryd.pinned (OpenSpec.ofChange nestTellsSpec)

/-- ITS FALSE NEIGHBOUR: 'it returns false'. Refute it at one input. -/
def nestTellsWrong : ChangeSpec := { name := "nestTells", fn := fun _ => fun
  | [d1, d2, d3] => { results := [.lit (.bool false)], args := [d1, d2, d3] }
  | _ => none }
def NestTellsWrongFalsely : Prop := nestTellsRow.holds Tryd.pinned (OpenSpec.ofChange nestTellsWrong)

/-- 'watersmeetlaw14.NestParts': WHATEVER THE INPUT: true; the input reads as it did. -/
def nestPartsSpec : ChangeSpec := { name := "nestParts", fn := fun _ => fun
  | [d1, d2, d3] => { results := [.lit (.bool true)], args := [d1, d2, d3] }
  | _ => none }
def nestPartsRow : OpenClaim := { program := "ytokjhlmpegogcaadoor", sum := "ea2f6b3f5782f636544b2fa90e2d204aec3bd8988a8f513ab314532bf0a4e5b2", func := "watersmeet/watersmeetlaw14.NestParts", spec := "nestParts", unfollowed := true, recurses := true, named := ["watersmeet/value.wants"], loops := true, apart := false, laid := [("watersmeet/value.wants", laid_watersmeet_value_wants)] }
def NestPartsSaid : Prop := nestPartsRow.holds Tryd.pinned (OpenSpec.ofChange nestPartsSpec)

/-- ITS FALSE NEIGHBOUR: 'it returns false'. Refute it at one input. -/
def nestPartsWrong : ChangeSpec := { name := "nestParts", fn := fun _ => fun
  | [d1, d2, d3] => { results := [.lit (.bool false)], args := [d1, d2, d3] }
  | _ => none }
def NestPartsWrongFalsely : Prop := nestPartsRow.holds Tryd.pinned (OpenSpec.ofChange nestPartsWrong)

/- THE SECOND FORM. 'bulk': how many values and letters a reading holds, each counted each time it is reached (what is shared counts as often as it is met; a slice's spare places count too). A statement '..UptoSaid' is the law's where the arguments, and the package variables that the reading takes, are together of bulk at most 1048576: NARROWER than '..Said'. Prove '..Said' where nothing that the law and all that it calls make is longer than what came in: it says more and counts as full. Else prove '..UptoSaid'. A law counts once. -/
mutual
def uptoBulk {H : Type} : DataW H → Nat
  | .lit (.string bytes) => bytes.length + 1
  | .lit _ => 1
  | .nil => 1
  | .ptr d => uptoBulk d + 1
  | .slice elems spare => uptoBulkAll elems + uptoBulkAll spare + 1
  | .agg parts => uptoBulkAll parts + 1
  | .iface _ d => uptoBulk d + 1
  | .map entries => uptoBulkEntries entries + 1
  | .held _ => 1
def uptoBulkAll {H : Type} : List (DataW H) → Nat
  | [] => 0
  | d :: r => uptoBulk d + uptoBulkAll r
def uptoBulkEntries {H : Type} : List (Lit × DataW H) → Nat
  | [] => 0
  | x :: r => uptoBulkEntry x + uptoBulkEntries r
def uptoBulkEntry {H : Type} : Lit × DataW H → Nat
  | (.string bytes, d) => bytes.length + uptoBulk d + 1
  | (_, d) => uptoBulk d + 1
 end
def uptoSmall : (H : Type) → List (DataW H) → Bool := fun _ ds => decide (uptoBulkAll ds ≤ 1048576)
def OpenSpec.upto (s : _root_.Go.ChangeSpec) : _root_.Go.OpenSpec := { _root_.Go.OpenSpec.ofChange s with cond := some uptoSmall }

/-- 'watersmeetlaw14.NestTells', WHERE WHAT IT READS IS OF BULK AT MOST 1048576: true; the input reads as it did. -/
def nestTellsUptoRow : OpenClaim := { program := "ytokjhlmpegogcaadoor", sum := "ea2f6b3f5782f636544b2fa90e2d204aec3bd8988a8f513ab314532bf0a4e5b2", func := "watersmeet/watersmeetlaw14.NestTells", spec := "nestTells", unfollowed := true, recurses := true, named := ["watersmeet/value.wants"], loops := true, apart := false, laid := [("watersmeet/value.wants", laid_watersmeet_value_wants)], narrowed := true }
def NestTellsUptoSaid : Prop := nestTellsUptoRow.holds Tryd.pinned (OpenSpec.upto nestTellsSpec)

/-- 'watersmeetlaw14.NestParts', WHERE WHAT IT READS IS OF BULK AT MOST 1048576: true; the input reads as it did. -/
def nestPartsUptoRow : OpenClaim := { program := "ytokjhlmpegogcaadoor", sum := "ea2f6b3f5782f636544b2fa90e2d204aec3bd8988a8f513ab314532bf0a4e5b2", func := "watersmeet/watersmeetlaw14.NestParts", spec := "nestParts", unfollowed := true, recurses := true, named := ["watersmeet/value.wants"], loops := true, apart := false, laid := [("watersmeet/value.wants", laid_watersmeet_value_wants)], narrowed := true }
def NestPartsUptoSaid : Prop := nestPartsUptoRow.holds Tryd.pinned (OpenSpec.upto nestPartsSpec)

end Rows
end Go.Proofs.YtokjhlmpegogcaaDoor
