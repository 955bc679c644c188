/-
  PACKAGE ident: a tree is the same as itself (plain mathematics).
-/
import Derived.Test.YtbddhkgbpjhhaaaGreatDoorGPl2
namespace Go.Proofs.YtbddhkgbpjhhaaaGreatDoor
namespace Pr
end Pr
namespace Tr
end Tr
theorem Id.ways_all {cols:List Int} {t b:Tr} (hq:Ck.query cols t=0) (hb:b∈Id.ways t):Id.Eqv cols t b:=by
 obtain⟨_,_,h3⟩:=Ck.query_right hq;exact Id.ways_eqv t (Ck.good_of h3) (Ck.tour_lv h3) b hb
end Go.Proofs.YtbddhkgbpjhhaaaGreatDoor
