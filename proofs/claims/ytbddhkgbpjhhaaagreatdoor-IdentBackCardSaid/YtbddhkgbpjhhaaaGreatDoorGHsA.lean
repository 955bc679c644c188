/-
  LAID TOGETHER, BY PROGRAM, of: Hst, Hsk.
-/
import Derived.Test.YtbddhkgbpjhhaaaGreatDoorGPl2
import Derived.Test.YtbddhkgbpjhhaaaGreatDoorGMtB
import Derived.Test.YtbddhkgbpjhhaaaGreatDoorGPred
import Derived.Test.YtbddhkgbpjhhaaaGreatDoorGBase
import Derived.Test.YtbddhkgbpjhhaaaGreatDoorGTerms
import Derived.Test.YtbddhkgbpjhhaaaGreatDoorGBwr
import Derived.Test.YtbddhkgbpjhhaaaGreatDoorGVal
import Derived.Lib.Hide
namespace Go.Proofs.YtbddhkgbpjhhaaaGreatDoor
open Go.RowKit Go.Sort
set_option maxHeartbeats 3200000
variable {w w' : World} {v : Value} {B : Nat}
end Go.Proofs.YtbddhkgbpjhhaaaGreatDoor
namespace Go.Proofs.YtbddhkgbpjhhaaaGreatDoor
open Go.RowKit Go.Sort
set_option maxHeartbeats 6400000
end Go.Proofs.YtbddhkgbpjhhaaaGreatDoor
