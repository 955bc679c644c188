/-
  A PREDICATE AT ANY DEPTH; Parse, whole.
-/
import Derived.Test.YtaodobjekpacoaaGreatDoorTxpM
import Derived.Test.YtaodobjekpacoaaGreatDoorTxsM
namespace Go.Proofs.YtaodobjekpacoaaGreatDoor
open Go.RowKit Go.Sort

theorem rpred_any {w0 : World} {R b c : Nat} {l : List Int} (hs : Src w0 R b c l) : PredAt w0 R b c l 4 :=
  rpred_succ hs 3 (by decide) (rpred_succ hs 2 (by decide) (rpred_succ hs 1 (by decide) (rpred_succ hs 0 (by decide) (rpred_0 w0 R b c l))))
theorem tparse_any (bs : List UInt8) (w : World) (hs : bs.length ≤ 1000000) (hE : ErrR w) :
    Calls Tryz.prog 8 #[.string ⟨bs.toArray⟩] w (GotP w (Tx.parse (Rn.runes bs))) := tparse_of rpred_any bs w hs hE
end Go.Proofs.YtaodobjekpacoaaGreatDoor
