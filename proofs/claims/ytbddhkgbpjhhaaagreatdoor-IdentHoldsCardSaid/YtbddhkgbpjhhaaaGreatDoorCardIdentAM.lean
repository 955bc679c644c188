/-
  WHAT IS PROVED: whatever the input, the law IdentHolds returns true, and each argument reads afterwards as it read before; the listed package-level variables are tied to the program's text. CONDITIONS: none beside the form's own.
-/
import Derived.Test.YtbddhkgbpjhhaaaGreatDoorCards
import Derived.Test.YtbddhkgbpjhhaaaGreatDoorTie
import Derived.Test.YtbddhkgbpjhhaaaGreatDoorIdHoldsM
import Derived.Test.YtbddhkgbpjhhaaaGreatDoorIdlaidM
import Derived.Test.YtbddhkgbpjhhaaaGreatDoorGEx
import Derived.Test.YtbddhkgbpjhhaaaGreatDoorGCame
import Derived.ProofKit
import Derived.OpenShut
import Derived.ChangeMaps5
import Derived.Lib.SmallJoins
import Derived.Deep.DeepHandedRow
import Derived.SizedLaws
set_option maxRecDepth 100000
namespace Go.Proofs.YtbddhkgbpjhhaaaGreatDoor.c_identHolds
open Go.ChangeShapes Go.WideShapes Go.ChangeAt Go.RowKit
theorem laidOut:laidOutB Tryz.prog=true:=by kernel_rfl
theorem own:ownKnob Tryz.prog.godebug=none:=by kernel_rfl
theorem contract (H:Type) (enc:TypeId × Value→H) (W:World) (base:Nat) (args:Array Value) (ds gs:List (DataW H)) (before:List MemPlace)
  (hval:∀(j:Nat) t v,Tryz.f3.params[j]?=some t→args[j]?=some v→Value.okWide Tryz.prog W .any base t v)
  (hW:DataW.Whole enc Tryz.prog Tryz.f3.params.toList Rows.identHoldsSpec.vars false W args.toList ds gs before) (hL:laidMet Tryz.prog Rows.identHoldsRow.laid W) :
  Calls Tryz.prog 3 args W fun e W'=>∃v,e=.returned v∧Rows.identHoldsSpec.post enc Tryz.prog Tryz.f3 false true false false W args v W':=by
 have hW':=hW;obtain⟨p,q,hA0,hV,rfl,hfz,hnd⟩:=hW;have hA:DataW.TrodAll enc Tryz.prog W 0 (fun _=>true) true Tryz.f3.params.toList args.toList ds p:=hA0;have hA1:=hA0;rw[Tryz.params3]at hA hval;obtain⟨v0,vs0,d0,ds0,p0,q0,hargs,rfl,rfl,h0,r0⟩:=trodAll_cons hA;obtain⟨v1,vs1,d1,ds1,p1,q1,rfl,rfl,rfl,h1,r1⟩:=trodAll_cons r0;obtain⟨rfl,rfl,rfl⟩:=trodAll_nil r1
 obtain rfl:args=#[v0,v1]:=by cases args;simp_all
 obtain⟨rfl,rfl⟩:=trodVars_none hV;obtain⟨cl0,a0,cv0,x0,y0,rfl,hc0,hu0,hx0⟩:=A5k (hval 0 28 v0 rfl rfl) h0;obtain⟨dd1,hd1,hy1⟩:=A2S (hval 1 30 v1 rfl rfl) h1;have hT:=J0 (A9u hL (.tail _ (.tail _ (.tail _ (.tail _ (.head _)))))) (J0 (A86 hL (.tail _ (.tail _ (.tail _ (.head _))))) (J0 (A9e hL (.tail _ (.tail _ (.head _)))) (A7R hL (.tail _ (.head _)))))
 have walk:Calls Tryz.prog 3 #[.agg #[cv0,a0.k,a0.t,x0,y0,a0.h],v1] W fun e w'=>e=.returned (.bool true)∧Below W W w':=by
  exact A1U a0 cl0 cv0 x0 y0 v1 dd1 W hc0 hu0 hx0 hd1 hy1 hT.1 hT.2.1 hT.2.2.1 hT.2.2.2
 refine walk.mono fun e W' ⟨he,hb⟩=>?_;subst he
 exact⟨_,rfl,A8r laidOut (by kernel_rfl) hW' hA1 (F3 _) hb rfl Tryz.underlying4 rfl rfl rfl rfl⟩
noncomputable def laidWorld (os:Os):World :=
 let w0:=World.holding Tryz.prog os ⟨#[],#[],[]⟩
 { w0 with heap:=(((((w0.heap.modify 4 fun
   | .cells _ t frozen=>.cells #[.int .u8 0,.int .u8 1,.int .u8 28,.int .u8 2,.int .u8 29,.int .u8 14,.int .u8 24,.int .u8 3,.int .u8 30,.int .u8 22,.int .u8 20,.int .u8 15,.int .u8 25,.int .u8 17,.int .u8 4,.int .u8 8,.int .u8 31,.int .u8 27,.int .u8 13,.int .u8 23,.int .u8 21,.int .u8 19,.int .u8 16,.int .u8 7,.int .u8 26,.int .u8 12,.int .u8 18,.int .u8 6,.int .u8 11,.int .u8 5,.int .u8 10,.int .u8 9] t frozen
   | o=>o).modify 1 fun
   | .cells _ t frozen=>.cells #[.int .u8 0,.int .u8 1,.int .u8 56,.int .u8 2,.int .u8 57,.int .u8 49,.int .u8 28,.int .u8 3,.int .u8 61,.int .u8 58,.int .u8 42,.int .u8 50,.int .u8 38,.int .u8 29,.int .u8 17,.int .u8 4,.int .u8 62,.int .u8 47,.int .u8 59,.int .u8 36,.int .u8 45,.int .u8 43,.int .u8 51,.int .u8 22,.int .u8 53,.int .u8 39,.int .u8 33,.int .u8 30,.int .u8 24,.int .u8 18,.int .u8 12,.int .u8 5,.int .u8 63,.int .u8 55,.int .u8 48,.int .u8 27,.int .u8 60,.int .u8 41,.int .u8 37,.int .u8 16,.int .u8 46,.int .u8 35,.int .u8 44,.int .u8 21,.int .u8 52,.int .u8 32,.int .u8 23,.int .u8 11,.int .u8 54,.int .u8 26,.int .u8 40,.int .u8 15,.int .u8 34,.int .u8 20,.int .u8 31,.int .u8 10,.int .u8 25,.int .u8 14,.int .u8 19,.int .u8 9,.int .u8 13,.int .u8 8,.int .u8 7,.int .u8 6] t frozen
   | o=>o).modify 3 fun
   | .cells _ t frozen=>.cells #[.int .u64 1,.int .u64 10,.int .u64 100,.int .u64 1000,.int .u64 10000,.int .u64 100000,.int .u64 1000000,.int .u64 10000000,.int .u64 100000000,.int .u64 1000000000,.int .u64 10000000000,.int .u64 100000000000,.int .u64 1000000000000,.int .u64 10000000000000,.int .u64 100000000000000,.int .u64 1000000000000000,.int .u64 10000000000000000,.int .u64 100000000000000000,.int .u64 1000000000000000000,.int .u64 10000000000000000000] t frozen
   | o=>o).modify 2 fun
   | .cells _ t frozen=>.cells #[false,false,false,false,true,false,true,false,true,true,false,false,true,true,false,false,false,true,false,true,true] t frozen
   | o=>o).modify 0 fun
   | .cells _ t frozen=>.cells #[.int .i64 1,.int .i64 1,.int .i64 1,.int .i64 2,.int .i64 1,.int .i64 1,.int .i64 2,.int .i64 1,.int .i64 2,.int .i64 2,.int .i64 1,.int .i64 3,.int .i64 2,.int .i64 1,.int .i64 4,.int .i64 2,.int .i64 2,.int .i64 2,.int .i64 3,.int .i64 1,.int .i64 1,.int .i64 3,.int .i64 1,.int .i64 2,.int .i64 3,.int .i64 1,.int .i64 3,.int .i64 3,.int .i64 1,.int .i64 4,.int .i64 3,.int .i64 2,.int .i64 2,.int .i64 4,.int .i64 1,.int .i64 1,.int .i64 4,.int .i64 1,.int .i64 2,.int .i64 4,.int .i64 1,.int .i64 3,.int .i64 4,.int .i64 1,.int .i64 4,.int .i64 4,.int .i64 2,.int .i64 1,.int .i64 4,.int .i64 2,.int .i64 2,.int .i64 4,.int .i64 2,.int .i64 3,.int .i64 4,.int .i64 2,.int .i64 4,.int .i64 4,.int .i64 3,.int .i64 1,.int .i64 4,.int .i64 3,.int .i64 2,.int .i64 4,.int .i64 3,.int .i64 3,.int .i64 4,.int .i64 3,.int .i64 4,.int .i64 4,.int .i64 4,.int .i64 1,.int .i64 4,.int .i64 4,.int .i64 2,.int .i64 4,.int .i64 4,.int .i64 3,.int .i64 4,.int .i64 4,.int .i64 4,.int .i64 5,.int .i64 1,.int .i64 1] t frozen
   | o=>o) }
theorem A8s (os:Os):laidMet Tryz.prog Rows.identHoldsRow.laid ((laidWorld os).forCall (fun _ _=>0) ⟨#[],#[.agg #[(),z9,z9,(),(),false],()],[]⟩).memory :=
 laidMet_of_run' 8 (by kernel_rfl) (by kernel_rfl)
theorem reads (os:Os) {H:Type} (enc:TypeId × Value→H):∃places,DataW.whole enc Tryz.prog ((laidWorld os).forCall (fun _ _=>0) ⟨#[],#[.agg #[(),z9,z9,(),(),false],()],[]⟩).memory Tryz.f3.params.toList Rows.identHoldsSpec.vars false (#[.agg #[(),z9,z9,(),(),false],()]:Array Value).toList 8=some ([.agg [.nil,.agg [.lit (.int .i64 0),.lit (.int .i64 0),.nil,.nil,.lit (.bool false)]],.nil],[],places) :=
 ⟨[],by kernel_rfl⟩
theorem lifted (os:Os) (started:os.Started) (H:Type) (enc:TypeId × Value→H) (F:Stop.Interp) :
  ReturnsInHanded {} Tryz.checked os 3 .any ((OpenSpec.ofChange Rows.identHoldsSpec).preRow enc Tryz.prog Tryz.f3 Rows.identHoldsRow.domain false Rows.identHoldsRow.laid) (((OpenSpec.ofChange Rows.identHoldsSpec).at F).post enc Tryz.prog Tryz.f3 false true false false):=by
 obtain⟨places,hx⟩:=reads os enc
 refine returnsInHanded_of_row (C:=Tryz.checked) (s:=OpenSpec.ofChange Rows.identHoldsSpec) own started (by kernel_rfl) Tryz.func3
  (witness_row_at (enc:=enc) (C:=Tryz.checked) false (laidWorld os) #[.agg #[(),z9,z9,(),(),false],()] rfl (by kernel_rfl) (by kernel_rfl) (by kernel_rfl)
   (OpenSpec.preRow_of_cond 8 hx (by kernel_rfl) (fun k hk=>by cases hk) (by kernel_rfl) (A8s os))) ?_
 intro W base args ds gs before hval hW _ _ _ hL _ _;exact contract H enc W base args ds gs before hval hW hL
theorem said:Rows.IdentHoldsSaid :=
 OpenClaim.holds_of_cond 3 Tryz.f3 rfl rfl rfl rfl rfl rfl rfl ⟨rfl,rfl,rfl,rfl,rfl⟩ rfl rfl rfl rfl rfl (by kernel_rfl) Tryz.func3 (by kernel_rfl)
  (of_decide_eq_true (by kernel_rfl)) (by unfold Func.isWrapper;first | (rw[if_pos (by decide +kernel)];kernel_rfl) | (rw[if_neg (by decide +kernel)];exact⟨rfl,rfl⟩))
  (fun os started H enc _ F=>by rw[OpenClaim.pre_eq_preRow];exact lifted os started H enc F)
theorem plain (f:FuncId) (fn:Func) (hf:Tryz.pinned.checked.prog.funcNamed "watersmeet/watersmeetlaw17.IdentHolds"=some f) (hfn:Tryz.pinned.checked.prog.funcs[f]?=some fn) :
  false=Tryz.pinned.checked.prog.looks []∧∀(j:Nat) t,fn.params[j]?=some t→Tryz.pinned.checked.prog.wantsStandIn t=false:=by
 obtain rfl:f=3:=F0 ((show Tryz.prog.funcNamed "watersmeet/watersmeetlaw17.IdentHolds"=some 3 by kernel_rfl).symm.trans hf) |>.symm
 obtain rfl:fn=Tryz.f3:=(F0 (Tryz.func3.symm.trans hfn)).symm
 refine⟨by kernel_rfl,fun j t ht=>?_⟩
 rw[Tryz.params3]at ht;have hm:=Array.mem_of_getElem? ht;simp only[List.mem_toArray,List.mem_cons,List.not_mem_nil,or_false]at hm
 rcases hm with rfl | rfl
 all_goals exact(show Tryz.prog.wantsStandIn _=false by kernel_rfl)
theorem card:Rows.IdentHoldsCardSaid :=
 Claim7.holds_tied_plain_at .later [] _ _ _ _ said (fun _ h=>by cases h) (by kernel_rfl) (fun _ h=>by cases h) identHolds_row_tie rfl ⟨rfl,rfl⟩ (by kernel_rfl) rfl plain (by kernel_rfl)
end Go.Proofs.YtbddhkgbpjhhaaaGreatDoor.c_identHolds
