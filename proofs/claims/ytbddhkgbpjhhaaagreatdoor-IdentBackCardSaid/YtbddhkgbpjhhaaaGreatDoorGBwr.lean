/-
  LAID TOGETHER, BY PROGRAM, of: Shb, Bwr.
-/
import Derived.Test.YtbddhkgbpjhhaaaGreatDoorGBase
import Derived.Shelf.Strings.BuilderRune
import Derived.Sort.Grow
namespace Go.Proofs.YtbddhkgbpjhhaaaGreatDoor
open Go.RowKit
set_option linter.unusedVariables false
set_option maxHeartbeats 4000000
end Go.Proofs.YtbddhkgbpjhhaaaGreatDoor
namespace Go.Proofs.YtbddhkgbpjhhaaaGreatDoor
open Go.RowKit Go.Sort Go.Lib
set_option maxHeartbeats 6400000
end Go.Proofs.YtbddhkgbpjhhaaaGreatDoor
