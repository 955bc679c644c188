/-
  PACKAGE ident: the changes; one of them done to a node.
-/
import Derived.Test.YtbddhkgbpjhhaaaGreatDoorIdwM
import Derived.Test.YtbddhkgbpjhhaaaGreatDoorIdxM
import Derived.Test.YtbddhkgbpjhhaaaGreatDoorIdt2M
import Derived.Test.YtbddhkgbpjhhaaaGreatDoorIdt3M
set_option maxHeartbeats 6400000
set_option maxRecDepth 100000
namespace Go.Proofs.YtbddhkgbpjhhaaaGreatDoor
open Go.RowKit Go.Sort
def DoIs (T:Nat→Prop) (how:Nat) (t:Tr) (w:World) (E:Ending) (w':World):Prop :=
 (∃z:Nd,Id.doo how t=some z.a∧E=.returned (.tuple #[.agg #[z.a.k,z.a.t,.slice z.uA z.uN z.uC,.slice z.pA z.pN z.pC,z.a.h,.int .u64 (z.n:Int),.slice z.xA z.xN z.xC],true])∧TNd (fun k=>T k∨w.heap.size≤k) w' z∧Below w w w') ∨
 (Id.doo how t=none∧E=.returned (.tuple #[.agg #[z9,z9,(),(),false,.int .u64 0,()],false])∧Below w w w')
theorem Id.doo_none {how:Nat} {t:Tr} (h:Id.apart how t=none):Id.doo how t=none:=by unfold Id.doo;rw[h];rfl
theorem Id.doo_some {how:Nat} {t:Tr} {p:Id.Prt} (h:Id.apart how t=some p):Id.doo how t=if Id.may how p.a.k p.b.k&&Id.holds how p then some (Id.made how p)else none:=by unfold Id.doo;rw[h];rfl
theorem Id.apart_size {how:Nat} {t:Tr} {p:Id.Prt} (h:Id.apart how t=some p):Pr.sizes p.a.cs≤Tr.size t∧Pr.sizes p.b.cs≤Tr.size t:=by
 have hk:∀{a b:Tr},b∈a.ks→Tr.size b≤Tr.size a:=fun {a b} hb=>by
  obtain⟨j,hj⟩:=List.mem_iff_getElem?.1 hb;have:=Tr.sizes_at hj;rw[Tr.size_at a];omega
 have hc:∀a:Tr,Pr.sizes a.cs≤Tr.size a:=fun a=>by rw[Tr.size_at];omega
 unfold Id.apart at h
 split at h
 ·obtain⟨e,f,_,rfl⟩:=Id.alone_some h
  exact⟨hc t,by show Pr.sizes []≤_;rw[Pr.sizes];exact E3 _⟩
 ·split at h
  ·obtain⟨x,e,f,g,h1,_,rfl⟩:=Id.first_some h
   exact⟨D5 (hc x) (hk (by rw[h1];simp)),hc t⟩
  ·obtain⟨y,e,f,g,h1,_,rfl⟩:=Id.second_some h
   exact⟨hc t,D5 (hc y) (hk (by rw[h1];simp))⟩
theorem A3w (fa fh fm:FuncId) (efa:∀(args:Array Value) (W:World),(callFunc fa args).run Tryz.prog W=.ok (.enter fa args) W) (efh:∀(args:Array Value) (W:World),(callFunc fh args).run Tryz.prog W=.ok (.enter fh args) W) (efm:∀(args:Array Value) (W:World),(callFunc fm args).run Tryz.prog W=.ok (.enter fm args) W) (how:Nat) (T:Nat→Prop) (z:Nd) (w:World) (_hz:TNd T w z) (hT:∀k,T k→k<w.heap.size) (hsz:Tr.size z.a≤1000) (hC:Chgs w)
  (cA:∀W,Below w w W→Calls Tryz.prog fa #[.agg #[z.a.k,z.a.t,.slice z.uA z.uN z.uC,.slice z.pA z.pN z.pC,z.a.h,.int .u64 (z.n:Int),.slice z.xA z.xN z.xC]] W (ApIs T how z.a W))
  (cH:∀(a b e f g:Nd) W,Below w w W→PtOk T how W a b e f g→Calls Tryz.prog fh #[.agg (c35 a b e f g).toArray] W fun E w'=>E=.returned (.bool (Id.holds how ⟨a.a,b.a,e.a,f.a,g.a⟩))∧Below W W w')
  (cM:∀(a b e f g:Nd) W,Below w w W→PtOk T how W a b e f g→Id.may how a.a.k b.a.k=true→Calls Tryz.prog fm #[.agg (c35 a b e f g).toArray] W (MdIs T (Id.made how ⟨a.a,b.a,e.a,f.a,g.a⟩) W)) :
  Calls Tryz.prog 40 #[.agg #[(how:Int),.func (.func fa) #[] #[],.func (.func fh) #[] #[],.func (.func fm) #[] #[]],.agg #[z.a.k,z.a.t,.slice z.uA z.uN z.uC,.slice z.pA z.pN z.pC,z.a.h,.int .u64 (z.n:Int),.slice z.xA z.xN z.xC]] w (DoIs T how z.a w):=by
 obtain⟨W0,hW0⟩:∃W0,W0=((w.alloc (Obj.cells #[(how:Int),.func (.func fa) #[] #[],.func (.func fh) #[] #[],.func (.func fm) #[] #[]] 86)).alloc (Obj.cells #[z.a.k,z.a.t,.slice z.uA z.uN z.uC,.slice z.pA z.pN z.pC,z.a.h,.int .u64 (z.n:Int),.slice z.xA z.xN z.xC] 68)).alloc (Obj.cells #[z9,z9,(),(),false,.int .u64 0,()] 68):=⟨_,rfl⟩
 have hb0:Below w w W0:=by rw[hW0];exact((J6 _ _).alloc (by simp) _).alloc (by simp;omega) _
 have hs0:W0.heap.size=w.heap.size+1+1+1:=by rw[hW0];simp only[J2]
 have l0:Lies W0 w.heap.size 86 [(how:Int),.func (.func fa) #[] #[],.func (.func fh) #[] #[],.func (.func fm) #[] #[]]:=by rw[hW0];exact((Lies.new _ _ _).alloc _).alloc _
 have l1:Lies W0 (w.heap.size+1) 68 z.cells:=by
  have:=((Lies.new (w.alloc (Obj.cells #[(how:Int),.func (.func fa) #[] #[],.func (.func fh) #[] #[],.func (.func fm) #[] #[]] 86)) 68 z.cells).alloc (Obj.cells #[z9,z9,(),(),false,.int .u64 0,()] 68));rw[J2]at this;rw[hW0];exact this
 have l2:Lies W0 (w.heap.size+1+1) 68 [z9,z9,(),(),false,.int .u64 0,()]:=by
  have:=Lies.new ((w.alloc (Obj.cells #[(how:Int),.func (.func fa) #[] #[],.func (.func fh) #[] #[],.func (.func fm) #[] #[]] 86)).alloc (Obj.cells #[z.a.k,z.a.t,.slice z.uA z.uN z.uC,.slice z.pA z.pN z.pC,z.a.h,.int .u64 (z.n:Int),.slice z.xA z.xN z.xC] 68)) 68 [z9,z9,(),(),false,.int .u64 0,()];rw[J2,J2]at this;rw[hW0];exact this
 have ca:=cA W0 hb0;have HX:=J1 (fun W (h:Below W0 W0 W)=>l0.below h l0.lt);have HD:=J1 (fun W (h:Below W0 W0 W)=>l2.below h l2.lt);have x1:=l0.c 1 rfl;obtain⟨z0,z1,z2,z3,z4,z5,z6⟩:=l1.nd;simp only[G6]at z0 z1 z2 z3 z4 z5 z6;have HW:=J1 hW0;have HB0:=J1 hb0;have HS0:=J1 hs0;have HT:=J1 hT;have CH:=J1 cH;have CM:=J1 cM;have CY:=J1 (fun(x y:Int) W (hb:Below w w W)=>A2Q how x y W (hC.below hb (C3 _)));have HSZ:=J1 hsz;clear _hz hT hsz hC cA cH cM hW0 hb0 hs0 l0 l1 l2;go_enter Tryz.func40,Tryz.ntmps40
 go_upto_region 1 with(fail)
 rw[←HW.out];go_wp2_with fail;refine ca.mono ?_
 rintro E w1 (⟨a,b,e,f,g,hap,hE,hnd,hb1⟩ | ⟨hap,hE,hb1⟩)
 ·clear ca x1 z0 z1 z2 z3 z4 z5 z6;have hbw1:=J5 HB0.out hb1;obtain⟨L,hL⟩:∃L:List Value,L=(c35 a b e f g):=⟨_,rfl⟩
  have hLl:L.length=35:=by rw[hL];rfl
  have HL1:=J1 (show L.toArray.all (·.oneCell')=true from by rw[hL,←G0];rfl)
  have HLI:=J1 (show(Tryz.prog.info? 123).map (·.size)=some L.toArray.size from by rw[List.size_toArray,hLl];kernel_rfl)
  rw[←hL]at hE;subst hE;obtain⟨W1,hW1⟩:∃W1,W1=w1.alloc (Obj.cells z35.toArray 123):=⟨_,rfl⟩;obtain⟨q1,hbz⟩:=L5 (cs:=z35) hW1
  have HTH:=J1 (show W1.there w1.heap.size 0 L.toArray.size from Lies.there q1 (by rw[List.size_toArray,hLl];rfl))
  obtain⟨W2,hW2⟩:∃W2,W2=setCells W1 w1.heap.size 0 L:=⟨_,rfl⟩
  obtain⟨_,hb2,_,q2,_⟩:=L9 (P:=Tryz.prog) (L:=L) (w:=w1) q1 (by rw[hLl];rfl) Tryz.underlying123 rfl (by kernel_rfl) hbz (C3 _) hW2
  have HW1:=J1 hW1;clear q1 hbz hW1;have HW2:=J1 hW2;have hbw2:=J5 hb1 hb2;have hsz2:=Id.apart_size hap;have hp2:PtOk T how W2 a b e f g:=⟨hnd.1.below hb2,hnd.2.1.below hb2,hnd.2.2.1.below hb2,fun h=>⟨(hnd.2.2.2 h).1.below hb2,(hnd.2.2.2 h).2.below hb2⟩,D5 hsz2.1 HSZ.out,D5 hsz2.2 HSZ.out⟩;have cy:=CY.out a.a.k b.a.k W2 (J5 HB0.out hbw2);have HP:=J1 hp2;have HQ:=J1 q2;have HB2:=J1 hbw2;have HDO:=J1 (Id.doo_some hap)
  have HS2:=J1 (show W0.heap.size≤w1.heap.size from hb1.size)
  have x0:=(HX.out W2 hbw2).c 0 rfl
  have p0:=q2.cell (i:=0) (u:=.int .i64 a.a.k) (by rw[hL];rfl)
  have p7:=q2.cell (i:=7) (u:=.int .i64 b.a.k) (by rw[hL];rfl)
  have HLE:=J1 hL
  have HLJ:=J1 (show(Tryz.prog.info? 123).map (·.size)=some L.length from by rw[hLl];kernel_rfl)
  clear hbw1 hb1 hb2 hbw2 hp2 q2 hW2 hap hnd hsz2 hL hLl;dsimp only
  go_step
  go_step
  go_step
  go_step
  go_step
  go_step
  go_step
  go_step
  go_step
  go_step
  go_step
  go_step
  go_step
  refine wpList_store_mid rfl 123 _ _ rfl _ 0 L.toArray rfl rfl ?ht HLI.out HL1.out ?_
  case ht=>rw[←HW1.out];exact HTH.out
  rw[←HW1.out,L6,←HW2.out];go_wp2_with fail;refine cy.mono ?_;rintro E w3 ⟨rfl,hb3⟩;obtain⟨t,ht⟩:∃t,t=Id.may how a.a.k b.a.k:=⟨_,rfl⟩;have HMY:=J1 ht;rw[←ht];have HB3:=J1 (J5 HB2.out hb3);have HP3:=J1 (HP.out.below hb3);have HQ3:=J1 (HQ.out.below hb3 HQ.out.lt);clear cy x0 p0 p7 hb3 ht;cases t
  ·have HNO:=J1 (show Id.doo how z.a=none from by
    rw[HDO.out]
    show(if(Id.may how a.a.k b.a.k&&_)=true then _ else _)=_
    rw[←HMY.out];rfl)
   have HD3:=J1 (HD.out w3 HB3.out)
   go_wp2_with (refine wpList_store_mid rfl 68 _ _ rfl (w.heap.size+1+1) 0 (.int .i64 0::.int .i64 0::.slice none 0 0::.slice none 0 0::.bool false::.int .u64 0::.slice none 0 0::[]).toArray rfl rfl (Lies.there HD3.out rfl) (by kernel_rfl) (by rw[←G0];rfl) ?_)
   obtain⟨W6,hW6⟩:∃W6,W6=setCells w3 (w.heap.size+1+1) 0 (z9::z9::()::()::false::.int .u64 0::()::[]):=⟨_,rfl⟩;rw[L6];rw[←hW6]
   obtain⟨hl,hb6,hk6,hq6,_⟩:=L9 (P:=Tryz.prog) (L:=(z9::z9::()::()::false::.int .u64 0::()::[])) (w:=w) HD3.out rfl Tryz.underlying68 rfl (by kernel_rfl) (J5 HB0.out HB3.out) (by omega) hW6
   clear hW6;go_wp2_with fail;exact bodyPost_ret (v:=.tuple #[.agg (.int .i64 0::.int .i64 0::.slice none 0 0::.slice none 0 0::.bool false::.int .u64 0::.slice none 0 0::[]).toArray,false]) (M0 rfl rfl rfl hl) rfl (.inr ⟨HNO.out,rfl,hb6⟩)
  ·have x2:=(HX.out w3 HB3.out).c 2 rfl
   have hr3:w3.rangeAt w1.heap.size 0 L:=fun j v hj=>by rw[G6];exact HQ3.out.cell hj
   have HR3:=J1 hr3;have ch:=CH.out a b e f g w3 (J5 HB0.out HB3.out) HP3.out;rw[←HLE.out]at ch;clear hr3
   go_wp2_with (refine Y6 rfl 123 _ rfl w1.heap.size 0 rfl L _ HR3.out Tryz.underlying123 rfl HLJ.out ?_)
   refine ch.mono ?_;rintro E w4 ⟨rfl,hb4⟩;obtain⟨t,ht⟩:∃t,t=Id.holds how ⟨a.a,b.a,e.a,f.a,g.a⟩:=⟨_,rfl⟩;have HHO:=J1 ht;rw[←ht];have HB4:=J1 (J5 HB3.out hb4);have HP4:=J1 (HP3.out.below hb4);have HQ4:=J1 (HQ3.out.below hb4 HQ3.out.lt);clear ch x2 hb4 ht;cases t
   ·have HNO:=J1 (show Id.doo how z.a=none from by
     rw[HDO.out]
     show(if(Id.may how a.a.k b.a.k&&Id.holds how ⟨a.a,b.a,e.a,f.a,g.a⟩)=true then _ else _)=_
     rw[←HMY.out,←HHO.out];rfl)
    have HD3:=J1 (HD.out w4 HB4.out)
    go_wp2_with (refine wpList_store_mid rfl 68 _ _ rfl (w.heap.size+1+1) 0 (.int .i64 0::.int .i64 0::.slice none 0 0::.slice none 0 0::.bool false::.int .u64 0::.slice none 0 0::[]).toArray rfl rfl (Lies.there HD3.out rfl) (by kernel_rfl) (by rw[←G0];rfl) ?_)
    obtain⟨W6,hW6⟩:∃W6,W6=setCells w4 (w.heap.size+1+1) 0 (z9::z9::()::()::false::.int .u64 0::()::[]):=⟨_,rfl⟩;rw[L6];rw[←hW6]
    obtain⟨hl,hb6,hk6,hq6,_⟩:=L9 (P:=Tryz.prog) (L:=(z9::z9::()::()::false::.int .u64 0::()::[])) (w:=w) HD3.out rfl Tryz.underlying68 rfl (by kernel_rfl) (J5 HB0.out HB4.out) (by omega) hW6
    clear hW6;go_wp2_with fail;exact bodyPost_ret (v:=.tuple #[.agg (.int .i64 0::.int .i64 0::.slice none 0 0::.slice none 0 0::.bool false::.int .u64 0::.slice none 0 0::[]).toArray,false]) (M0 rfl rfl rfl hl) rfl (.inr ⟨HNO.out,rfl,hb6⟩)
   ·have x3:=(HX.out w4 HB4.out).c 3 rfl
    have hr4:w4.rangeAt w1.heap.size 0 L:=fun j v hj=>by rw[G6];exact HQ4.out.cell hj
    have HR4:=J1 hr4
    have HYES:=J1 (show Id.doo how z.a=some (Id.made how ⟨a.a,b.a,e.a,f.a,g.a⟩) from by
     rw[HDO.out]
     show(if(Id.may how a.a.k b.a.k&&Id.holds how ⟨a.a,b.a,e.a,f.a,g.a⟩)=true then _ else _)=_
     rw[←HMY.out,←HHO.out];rfl)
    have cm:=CM.out a b e f g w4 (J5 HB0.out HB4.out) HP4.out HMY.out.symm;rw[←HLE.out]at cm;clear hr4
    go_wp2_with (refine wpList_load_mid rfl 123 _ rfl w1.heap.size 0 rfl L _ HR4.out Tryz.underlying123 rfl HLJ.out ?_)
    refine cm.mono ?_;rintro E w5 ⟨y,rfl,hy,hty,hb5⟩;have HB5:=J1 (J5 HB4.out hb5);have HY:=J1 hy;have HTY:=J1 hty;have HD5:=J1 (HD.out w5 HB5.out);have HS5:=J1 HB4.out.size;clear cm x3 hy hty hb5
    go_wp2_with (refine wpList_store_mid rfl 68 _ _ rfl (w.heap.size+1+1) 0 (.int .i64 y.a.k::.int .i64 y.a.t::.slice y.uA y.uN y.uC::.slice y.pA y.pN y.pC::.bool y.a.h::.int .u64 (y.n:Int)::.slice y.xA y.xN y.xC::[]).toArray rfl rfl (Lies.there HD5.out rfl) (by kernel_rfl) (by rw[←G0];rfl) ?_)
    obtain⟨W6,hW6⟩:∃W6,W6=setCells w5 (w.heap.size+1+1) 0 (.int .i64 y.a.k::.int .i64 y.a.t::.slice y.uA y.uN y.uC::.slice y.pA y.pN y.pC::.bool y.a.h::.int .u64 (y.n:Int)::.slice y.xA y.xN y.xC::[]):=⟨_,rfl⟩;rw[L6];rw[←hW6]
    obtain⟨hl,hb6,hk6,hq6,_⟩:=L9 (P:=Tryz.prog) (L:=(.int .i64 y.a.k::.int .i64 y.a.t::.slice y.uA y.uN y.uC::.slice y.pA y.pN y.pC::.bool y.a.h::.int .u64 (y.n:Int)::.slice y.xA y.xN y.xC::[])) (w:=w) HD5.out rfl Tryz.underlying68 rfl (by kernel_rfl) (J5 HB0.out HB5.out) (by omega) hW6
    clear hW6;go_wp2_with fail;refine bodyPost_ret (v:=.tuple #[.agg (.int .i64 y.a.k::.int .i64 y.a.t::.slice y.uA y.uN y.uC::.slice y.pA y.pN y.pC::.bool y.a.h::.int .u64 (y.n:Int)::.slice y.xA y.xN y.xC::[]).toArray,true]) (M0 rfl rfl rfl hl) rfl ?_
    exact .inl ⟨y,by rw[HYES.out,HY.out],rfl,HTY.out.keep hk6.size (fun k hk hlt=>⟨hk6.same k hlt (by
     rcases hk with hk | hk
     ·have:=HT.out k hk;omega
     ·have:=HS0.out;have:=HS5.out;omega),hk.imp id (fun h=>by have:=HS0.out;have:=HS5.out;omega)⟩),hb6⟩
 ·have HNO:=J1 (Id.doo_none hap);obtain⟨L,hL⟩:∃L:List Value,L=z35:=⟨_,rfl⟩
  have hLl:L.length=35:=by rw[hL];rfl
  have HL1:=J1 (show L.toArray.all (·.oneCell')=true from by rw[hL,←G0];rfl)
  have HLI:=J1 (show(Tryz.prog.info? 123).map (·.size)=some L.toArray.size from by rw[List.size_toArray,hLl];kernel_rfl)
  rw[←hL]at hE;subst hE;obtain⟨W1,hW1⟩:∃W1,W1=w1.alloc (Obj.cells z35.toArray 123):=⟨_,rfl⟩;obtain⟨q1,hbz⟩:=L5 (cs:=z35) hW1
  have HTH:=J1 (show W1.there w1.heap.size 0 L.toArray.size from Lies.there q1 (by rw[List.size_toArray,hLl];rfl))
  obtain⟨W2,hW2⟩:∃W2,W2=setCells W1 w1.heap.size 0 L:=⟨_,rfl⟩
  obtain⟨_,hb2,_,q2,_⟩:=L9 (P:=Tryz.prog) (L:=L) (w:=w1) q1 (by rw[hLl];rfl) Tryz.underlying123 rfl (by kernel_rfl) hbz (C3 _) hW2
  have HW1:=J1 hW1;clear q1 hbz hW1;have HB3:=J1 (J5 hb1 hb2);have HW2:=J1 hW2;clear ca x1 z0 z1 z2 z3 z4 z5 z6 hap hb1 hb2 hW2 q2 hL hLl;dsimp only
  go_step
  go_step
  go_step
  go_step
  go_step
  go_step
  go_step
  go_step
  go_step
  go_step
  go_step
  go_step
  go_step
  refine wpList_store_mid rfl 123 _ _ rfl _ 0 L.toArray rfl rfl ?ht HLI.out HL1.out ?_
  case ht=>rw[←HW1.out];exact HTH.out
  rw[←HW1.out,L6,←HW2.out];have HD3:=J1 (HD.out W2 HB3.out)
  go_upto_region 3 with(fail)
  go_wp2_with (refine wpList_store_mid rfl 68 _ _ rfl (w.heap.size+1+1) 0 (.int .i64 0::.int .i64 0::.slice none 0 0::.slice none 0 0::.bool false::.int .u64 0::.slice none 0 0::[]).toArray rfl rfl (Lies.there HD3.out rfl) (by kernel_rfl) (by rw[←G0];rfl) ?_)
  obtain⟨W6,hW6⟩:∃W6,W6=setCells W2 (w.heap.size+1+1) 0 (z9::z9::()::()::false::.int .u64 0::()::[]):=⟨_,rfl⟩;rw[L6];rw[←hW6]
  obtain⟨hl,hb6,hk6,hq6,_⟩:=L9 (P:=Tryz.prog) (L:=(z9::z9::()::()::false::.int .u64 0::()::[])) (w:=w) HD3.out rfl Tryz.underlying68 rfl (by kernel_rfl) (J5 HB0.out HB3.out) (by omega) hW6
  clear hW6;go_wp2_with fail;exact bodyPost_ret (v:=.tuple #[.agg (.int .i64 0::.int .i64 0::.slice none 0 0::.slice none 0 0::.bool false::.int .u64 0::.slice none 0 0::[]).toArray,false]) (M0 rfl rfl rfl hl) rfl (.inr ⟨HNO.out,rfl,hb6⟩)
end Go.Proofs.YtbddhkgbpjhhaaaGreatDoor
