/-
  PACKAGE ident: what Ways' function is, as one that is handed trees; given its call.
-/
import Derived.Test.YtbddhkgbpjhhaaaGreatDoorIdjM
set_option maxHeartbeats 6400000
namespace Go.Proofs.YtbddhkgbpjhhaaaGreatDoor
open Go.RowKit Go.Sort
theorem Kept.hand_of (N B base lb:Nat)
  (call:∀(L:List Tr) (O:Nat→Prop) (w:World) (t:Tr) (u v:Value),Kept base lb L O w→TrOn (fun k=>¬O k) w (t,u,v)→Tr.size t=N→L.length<B→Calls Tryz.prog 31 (#[.agg #[t.k,t.t,u,v,t.h]]++#[.pointer (some ⟨lb,0,none⟩)]) w (Handed (Kept base lb) (L++[t]) O w)) :
  Hand N B (fun _=>False) (Kept base lb) 31 #[.pointer (some ⟨lb,0,none⟩)] where
 enter:=fun _ _=>by kernel_rfl
 keep:=fun _ _ _ _ h hk=>h.keep hk
 own:=fun _ _ _ h k=>⟨fun hO=>(h.low k hO).2,fun hf=>hf.elim⟩
 call:=call
end Go.Proofs.YtbddhkgbpjhhaaaGreatDoor
