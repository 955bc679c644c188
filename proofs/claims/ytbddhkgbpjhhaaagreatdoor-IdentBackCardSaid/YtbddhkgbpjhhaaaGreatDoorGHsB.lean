/-
  LAID TOGETHER, BY PROGRAM, of: Hsq, Hsh, Hsi, Hsj, TuCame, TuWf.
-/
import Derived.Test.YtbddhkgbpjhhaaaGreatDoorGHsA
import Derived.Test.YtbddhkgbpjhhaaaGreatDoorGBase
import Derived.Test.YtbddhkgbpjhhaaaGreatDoorGPred
import Derived.Test.YtbddhkgbpjhhaaaGreatDoorGNs
import Derived.Test.YtbddhkgbpjhhaaaGreatDoorGMtC
import Derived.Test.YtbddhkgbpjhhaaaGreatDoorGCame
import Derived.Maps.OwnIn
import Derived.Maps.Views
import Derived.Maps.OwnSet
import Derived.Deep.RegionLaw
import Derived.Lib.LaidTab
import Derived.OpenShut
namespace Go.Proofs.YtbddhkgbpjhhaaaGreatDoor
open Go.RowKit Go.Sort
set_option maxHeartbeats 6400000
end Go.Proofs.YtbddhkgbpjhhaaaGreatDoor
namespace Go.Proofs.YtbddhkgbpjhhaaaGreatDoor
open Go.RowKit Go.Sort Go.Maps
set_option maxHeartbeats 6400000
variable {R S : Nat → Prop} {base b n : Nat} {w w' : World} {g : List UInt8 → Value} {U : List UInt8 → List Value} {f : List UInt8 → List (List (List Vl))}
end Go.Proofs.YtbddhkgbpjhhaaaGreatDoor
namespace Go.Proofs.YtbddhkgbpjhhaaaGreatDoor
open Go.RowKit Go.Sort Go.Maps
set_option maxHeartbeats 6400000
end Go.Proofs.YtbddhkgbpjhhaaaGreatDoor
namespace Go.Proofs.YtbddhkgbpjhhaaaGreatDoor
open Go.RowKit Go.Sort Go.Maps
set_option maxHeartbeats 6400000
namespace Hs
end Hs
end Go.Proofs.YtbddhkgbpjhhaaaGreatDoor
namespace Go.Proofs.YtbddhkgbpjhhaaaGreatDoor
set_option maxRecDepth 100000
open Go.RowKit Go.WideShapes Go.ChangeShapes Go.Deep
section
variable {H : Type} {enc : TypeId × Value → H} {W : World}
end
end Go.Proofs.YtbddhkgbpjhhaaaGreatDoor
namespace Go.Proofs.YtbddhkgbpjhhaaaGreatDoor
set_option maxRecDepth 100000
open Go.RowKit Go.WideShapes Go.ChangeShapes Go.Deep
section
variable {H : Type} {enc : TypeId × Value → H} {W : World}
end
end Go.Proofs.YtbddhkgbpjhhaaaGreatDoor
