/-
  PACKAGE ident: Do.
-/
import Derived.Test.YtbddhkgbpjhhaaaGreatDoorIdyaM
import Derived.Test.YtbddhkgbpjhhaaaGreatDoorIdbM
import Derived.Test.YtbddhkgbpjhhaaaGreatDoorGTreeB
set_option maxHeartbeats 6400000
set_option maxRecDepth 100000
namespace Go.Proofs.YtbddhkgbpjhhaaaGreatDoor
open Go.RowKit Go.Sort
theorem Id.size_two {t x y:Tr} (h:t.ks=[x,y]):Tr.size t=1+Pr.sizes t.cs+(Tr.size x+Tr.size y):=by
 rw[Tr.size_at,h,Tr.sizes,Tr.sizes,Tr.sizes,Nat.add_zero]
theorem Id.doo_size {how:Nat} {t x:Tr} (h:Id.doo how t=some x):Tr.size x=Tr.size t:=by
 unfold Id.doo at h
 cases hp:Id.apart how t with
 | none=>rw[hp]at h;cases h
 | some p =>
  rw[hp]at h;change (if(Id.may how p.a.k p.b.k&&Id.holds how p)=true then some (Id.made how p)else none)=some x at h
  split at h
  ·cases h;unfold Id.apart at hp;unfold Id.made
   split at hp
   ·rename_i h1
    obtain⟨e,f,hk,rfl⟩:=Id.alone_some hp;rw[if_pos h1,Id.size_on,Id.size_two hk];dsimp only;omega
   ·rename_i h1
    rw[if_neg h1]
    split at hp
    ·rename_i h2
     obtain⟨y,e,f,g,hk,hk2,rfl⟩:=Id.first_some hp;have e1:=Id.size_two hk;have e2:=Id.size_two hk2
     split
     ·rw[Id.size_on,Id.size_on];dsimp only;omega
     ·rw[if_neg (by omega)]
      split
      ·rw[Id.size_on,Id.size_on];dsimp only;omega
      ·omega
    ·rename_i h2
     obtain⟨y,e,f,g,hk,hk2,rfl⟩:=Id.second_some hp;have e1:=Id.size_two hk;have e2:=Id.size_two hk2
     rw[if_neg (by omega)]
     split
     ·rw[Id.size_on,Id.size_on];dsimp only;omega
     ·rw[if_neg (by omega),Id.size_on,Id.size_on];dsimp only;omega
  ·cases h
theorem DoIs.any {T:Nat→Prop} {how:Nat} {t:Tr} {w w':World} {E:Ending} (h:DoIs T how t w E w'):∃z:Nd,E=.returned (.tuple #[.agg #[z.a.k,z.a.t,.slice z.uA z.uN z.uC,.slice z.pA z.pN z.pC,z.a.h,.int .u64 (z.n:Int),.slice z.xA z.xN z.xC],.bool (Id.doo how t).isSome])∧z.a=(Id.doo how t).getD Id.zero∧TrOn (fun k=>T k∨w.heap.size≤k) w' (z.a,z.u,z.p)∧Below w w w':=by
 rcases h with⟨z,h1,h2,h3,h4⟩ | ⟨h1,h2,h3⟩
 ·exact⟨z,by rw[h1];exact h2,by rw[h1];rfl,h3.tr,h4⟩
 ·exact⟨Nd.zero,by rw[h1];exact h2,by rw[h1];rfl,TNd.zero_u _ _,h3⟩
theorem Id.do_size {how:Nat} {t:Tr} (h:Tr.size t≤1000):Tr.size ((Id.doo how t).getD Id.zero)≤1000:=by
 cases hd:Id.doo how t with
 | none=>show Tr.size Id.zero≤1000;unfold Id.zero;rw[Tr.size,Pr.sizes,Tr.sizes];omega
 | some x=>have:=Id.doo_size hd;show Tr.size x≤1000;omega
def DooIs (how:Nat) (a:Tr) (w:World) (E:Ending) (w':World):Prop:=∃t u v,t=(Id.doo how a).getD Id.zero∧E=.returned (.tuple #[.agg #[t.k,t.t,u,v,t.h],.bool (Id.doo how a).isSome])∧TrOn (fun k=>w.heap.size≤k) w' (t,u,v)∧Below w w w'
theorem A2R (how:Nat) (h1:1≤how) (h5:how≤5) (a:Tr) (uA:Option Addr) (uN uC:Nat) (pA:Option Addr) (pN pC:Nat) (w:World) (ht:TrHang w (a,.slice uA uN uC,.slice pA pN pC)) (hsz:Tr.size a≤1000) (hC:Chgs w) (hW:Want w) :
  Calls Tryz.prog 13 #[(how:Int),.agg #[a.k,a.t,.slice uA uN uC,.slice pA pN pC,a.h]] w (DooIs how a w):=by
 have hon:TrOn (fun k=>k<w.heap.size) w (a,.slice uA uN uC,.slice pA pN pC):=ht.on fun k h=>h;obtain⟨W0,hW0⟩:∃W0,W0=(w.alloc (Obj.cells #[a.k,a.t,.slice uA uN uC,.slice pA pN pC,a.h] 26)).alloc (Obj.cells #[z9,z9,(),(),false] 26):=⟨_,rfl⟩;obtain⟨l0,l1,hb0⟩:=Q0 (cs:=[a.k,a.t,.slice uA uN uC,.slice pA pN pC,a.h]) (ds:=[z9,z9,(),(),false]) hW0
 have hs0:W0.heap.size=w.heap.size+1+1:=by rw[hW0,J2,J2]
 have cc:=A05 W0;have HX:=J1 (fun W (h:Below W0 W0 W)=>l0.below h l0.lt);have HD:=J1 (fun W (h:Below W0 W0 W)=>l1.below h l1.lt);have HON:=J1 (fun W (h:Below w w W)=>(hon.keep (T':=fun k=>k<w.heap.size) h.size fun k hk hlt=>⟨h.block k hlt,hk⟩));have CM:=J1 (fun W (h:Below W0 W0 W)=>A3v (fun k=>k<w.heap.size) a uA uN uC pA pN pC W (HON.out W (J5 hb0 h)) hsz (fun k hk=>C9 hk (J5 hb0 h).size))
 obtain⟨j,rfl⟩:∃j,how=j+1:=⟨how-1,by omega⟩
 have hj:j<5:=by omega
 have CD:=J1 (fun(z:Nd) (Tz:Nat→Prop) (W:World) (h:Below W0 W0 W) (hza:z.a=a) (hz:TNd Tz W z) (hTz:∀k,Tz k→k<W.heap.size) =>
  (A68 j hj Tz z W hz hTz (by rw[hza];exact hsz) (hC.below (J5 hb0 h) (C3 _)) (hW.below (J5 hb0 h) (C3 _))).mono fun E w' ho=>(show ∃y:Nd,E=.returned (.tuple #[.agg #[y.a.k,y.a.t,.slice y.uA y.uN y.uC,.slice y.pA y.pN y.pC,y.a.h,.int .u64 (y.n:Int),.slice y.xA y.xN y.xC],.bool (Id.doo (j+1) a).isSome])∧y.a=(Id.doo (j+1) a).getD Id.zero∧TrOn (fun k=>Tz k∨W.heap.size≤k) w' (y.a,y.u,y.p)∧Below W W w' from by
   obtain⟨y,h1,h2,h3,h4⟩:=ho.any;rw[hza]at h1 h2;exact⟨y,h1,h2,h3,h4⟩))
 have HSZ:=J1 (Id.do_size (how:=j+1) hsz);have HS0:=J1 hs0;have HW:=J1 hW0;have HB0:=J1 hb0;obtain⟨D,hD⟩:∃D,D=(Id.doo (j+1) a).isSome:=⟨_,rfl⟩;obtain⟨R,hR⟩:∃R,R=(Id.doo (j+1) a).getD Id.zero:=⟨_,rfl⟩;rw[←hD,←hR]at CD;rw[←hR]at HSZ;have HDE:=J1 hD;obtain⟨H,hH⟩:∃H:Int,H=((j+1:Nat):Int):=⟨_,rfl⟩;rw[←hH]at CD ⊢;have HH:=J1 hH;have HRE:=J1 hR;clear ht hsz hC hW hon hW0 hs0 hb0 l0 l1 h1 h5 hD hR hH;go_enter Tryz.func13,Tryz.ntmps13
 go_upto_region 1 with(fail)
 rw[←HW.out];go_wp2_with fail;refine cc.mono ?_;rintro E w1 ⟨rfl,lc,hb1⟩;have HLC:=J1 lc;have HB1:=J1 hb1;clear cc lc hb1;go_wp2_with fail
 go_loopw [12] (fun i wr=>∃q:Nat,q≤j∧i=.int .i64 q∧Below w1 w1 wr) (fun i _=>5-(intOf i).toNat)
 case atStart=>exact⟨0,E3 _,rfl,Below.refl _ _⟩
 case round =>
  obtain⟨q,hq,rfl,hb⟩:=hrel
  have i2:(q:Int)<5:=by omega
  obtain⟨c0,c1,c2,c3⟩:=A96 q (by omega)
  obtain⟨m,hm⟩:∃m:Int,m=((q+1:Nat):Int):=⟨_,rfl⟩;rw[←hm]at c0;have lcr:=HLC.out.below hb HLC.out.lt;have x0:=lcr.cell c0;have x1:=lcr.cell c1;have x2:=lcr.cell c2;have x3:=lcr.cell c3;have hbw:=J5 HB1.out hb;obtain⟨W2,hW2⟩:∃W2,W2=wr.alloc (Obj.cells #[m,.func (.func (chA q)) #[] #[],.func (.func (chH q)) #[] #[],.func (.func (chM q)) #[] #[]] 86):=⟨_,rfl⟩;obtain⟨l2,hb2⟩:=L5 (cs:=[m,.func (.func (chA q)) #[] #[],.func (.func (chH q)) #[] #[],.func (.func (chM q)) #[] #[]]) hW2;have HW2:=J1 hW2;have HB2:=J1 (J5 hbw hb2);have HB12:=J1 (J5 hb hb2);have HY:=J1 (fun W (h:Below W2 W2 W)=>l2.below h l2.lt);have y0:=l2.c 0 rfl;clear c0 c1 c2 c3 lcr hbw hW2 hb2 hb l2
  by_cases hqj:q=j
  ·subst hqj
   obtain rfl:m=H:=by rw[hm,HH.out]
   have heb:(m == m)=true:=by simp
   clear hm
   go_upto_region 5 with(fail)
   rw[←HW2.out];clear x0 x1 x2 x3 y0
   refine wp_region_held_drew (S:=fun W=>Below W2 W2 W) (by kernel_rfl) (Below.refl _ W2).drew (fun hS=>?_)
   refine Q7 (l':=Array.replicate 10 false) (m':=10) (by kernel_rfl) (by kernel_rfl) ?_
   refine tk9 (i:=0) (v:=?v1) rfl (Or.inl ⟨by rfl,?hy1⟩) hS ?rest1
   case hy1=>(intro w hSw;have l:=HY.out _ hSw;have y0:=l.c 0 rfl;have y1:=l.c 1 rfl;have y2:=l.c 2 rfl;have y3:=l.c 3 rfl;clear l;go_simp;try with_reducible rfl)
   try simp only[Act.put,A7,C4,C5]
   refine tk9 (i:=1) (v:=?v2) rfl (Or.inl ⟨by rfl,?hy2⟩) hS ?rest2
   case hy2=>(intro w hSw;have l:=HX.out _ (J5 HB2.out hSw);have y0:=l.c 0 rfl;have y1:=l.c 1 rfl;have y2:=l.c 2 rfl;have y3:=l.c 3 rfl;have y4:=l.c 4 rfl;clear l;go_simp;try with_reducible rfl)
   try simp only[Act.put,A7,C4,C5]
   refine wpAnyH_ready (rs:=[2,7]) (by kernel_rfl) (by simp) ?_
   refine J3 rfl (fun K hK=>?_) (J3 rfl (fun K hK=>?_) J4)
   rw[if_pos (by kernel_rfl)]
   go_simp;refine(CM.out _ (J5 HB2.out hS)).mono ?_;rintro E wM ⟨xA,xN,xC,rfl,htM,hbM⟩
   try dsimp only
   have HTM:=J1 htM;have hW2M:W2.heap.size≤(W2.drew).heap.size:=hS.size
   have HWM:=J1 (show W2.heap.size≤(W2.drew).heap.size∧(W2.drew).heap.size≤wM.heap.size from⟨hS.size,hbM.size⟩)
   replace hS:=J5 hS hbM;clear htM hW2M;refine hK.out _ _ hS (fun _=>?_);clear hK K
   try simp only[Act.put,A7,C4,C5]
   refine wpAnyH_ready (rs:=[3,7]) (by kernel_rfl) (by simp) ?_
   refine J3 rfl (fun K hK=>?_) (J3 rfl (fun K hK=>?_) J4)
   rw[if_pos (by kernel_rfl)]
   go_simp;refine(CD.out ⟨a,uA,uN,uC,pA,pN,pC,Tr.tables a,xA,xN,xC⟩ (fun k=>k<wM.heap.size) _ (J5 HB2.out hS) rfl (HTM.out.mono fun k _ hlt=>hlt) (fun k h=>h)).mono ?_;rintro E wD ⟨y,rfl,hya,hyt,hbD⟩
   try dsimp only
   have HBD:=J1 hbD;replace hS:=J5 hS hbD;have HYA:=J1 hya;have HYT:=J1 hyt;clear hya hyt hbD;refine hK.out _ _ hS (fun _=>?_);clear hK K
   try simp only[Act.put,A7,C4,C5]
   refine tk9 (i:=4) (v:=?v3) rfl (Or.inl ⟨by rfl,?hy3⟩) hS ?rest3
   case hy3=>(intro w hSw;go_simp;try with_reducible rfl)
   try simp only[Act.put,A7,C4,C5]
   refine tk9 (i:=5) (v:=?v4) rfl (Or.inl ⟨by rfl,?hy4⟩) hS ?rest4
   case hy4=>(intro w hSw;go_simp;try with_reducible rfl)
   try simp only[Act.put,A7,C4,C5]
   refine tk9 (i:=6) (v:=?v5) rfl (Or.inl ⟨by rfl,?hy5⟩) hS ?rest5
   case hy5=>(intro w hSw;go_simp;try with_reducible rfl)
   try simp only[Act.put,A7,C4,C5]
   refine wpAnyH_ready (rs:=[7]) (by kernel_rfl) (by simp) ?_
   refine J3 rfl (fun K hK=>?_) J4
   rw[if_pos (by kernel_rfl)]
   go_simp;have hq:=Lies.new (wD) 68 [z9,z9,(),(),false,.int .u64 0,()]
   have HGW:=J1 (show W2.heap.size≤(wD).heap.size from hS.size)
   replace hS:=J5 hS (J6 (wD) (Obj.cells #[z9,z9,(),(),false,.int .u64 0,()] 68));refine hK.out _ _ hS (fun _=>?_);clear hK K
   try simp only[Act.put,A7,C4,C5]
   refine wpAnyH_ready (rs:=[8]) (by kernel_rfl) (by simp) ?_
   refine J3 rfl (fun K hK=>?_) J4
   rw[if_pos (by kernel_rfl)]
   refine wp_store_mid 68 _ _ rfl wD.heap.size 0 (.int .i64 y.a.k::.int .i64 y.a.t::.slice y.uA y.uN y.uC::.slice y.pA y.pN y.pC::.bool y.a.h::.int .u64 (y.n:Int)::.slice y.xA y.xN y.xC::[]).toArray rfl rfl (Lies.there hq rfl) (by kernel_rfl) (by rw[←G0];rfl) ?_
   obtain⟨W9,hW9⟩:∃W9,W9=setCells ((wD.alloc (Obj.cells #[z9,z9,(),(),false,.int .u64 0,()] 68))) (wD.heap.size) 0 (.int .i64 y.a.k::.int .i64 y.a.t::.slice y.uA y.uN y.uC::.slice y.pA y.pN y.pC::.bool y.a.h::.int .u64 (y.n:Int)::.slice y.xA y.xN y.xC::[]):=⟨_,rfl⟩;rw[L6];rw[←hW9]
   have hk9:Keeps (fun k=>k≠wD.heap.size) ((wD.alloc (Obj.cells #[z9,z9,(),(),false,.int .u64 0,()] 68))) W9:=⟨by rw[hW9];exact V6 _ _ _ _,by rw[hW9];exact S0 _ _ _ _,by rw[hW9];exact Q1 _ _ _ _,by rw[hW9,N0];exact C3 _,fun k _ hne=>by rw[hW9];exact M6 _ _ hne _ _ _⟩
   have hq9:Lies W9 (wD.heap.size) 68 (.int .i64 y.a.k::.int .i64 y.a.t::.slice y.uA y.uN y.uC::.slice y.pA y.pN y.pC::.bool y.a.h::.int .u64 (y.n:Int)::.slice y.xA y.xN y.xC::[]):=by rw[hW9];exact hq.put_all rfl
   clear hW9;have hlow:W2.heap.size≤wD.heap.size:=HGW.out
   have hyt9:TrHang W9 (y.a,y.u,y.p):=(HYT.out.keep (T':=fun _=>True) (D5 (by rw[J2];exact Nat.le_succ _) hk9.size) (fun k hk hlt=>⟨(hk9.same k (by rw[J2];omega) (by omega)).trans (Below.heap_alloc _ _ _ hlt),trivial⟩)).hang
   replace hS:Below W2 W2 W9:=⟨hk9.os.trans hS.os,hk9.tape.trans hS.tape,hk9.output.trans hS.output,D5 hS.size hk9.size,fun k hk=>(hk9.same k (C9 hk hS.size) (by omega)).trans (hS.block k hk)⟩
   clear hk9 hq;refine hK.out _ _ hS (fun _=>?_);clear hK K
   try simp only[Act.put,A7]
   refine tk9 (i:=9) (v:=?v6) rfl (Or.inl ⟨by rfl,?hy6⟩) hS ?rest6
   case hy6=>(intro w hSw;go_simp;try with_reducible rfl)
   try simp only[Act.put]
   refine wpAnyH_done (by kernel_rfl) ?_ _
   have HL9:=J1 hq9
   have HG9:=J1 (show W2.heap.size≤wD.heap.size from hlow)
   obtain⟨g,hg⟩:∃g,g=wD.heap.size:=⟨_,rfl⟩;rw[←hg]at HL9 HG9 ⊢;clear hg hq9 hlow;have HB9:=J1 (J5 HB2.out hS);clear hS
   rotate_left
   rw[if_pos (by kernel_rfl)]
   go_simp;have hq:=Lies.new (wM) 68 [z9,z9,(),(),false,.int .u64 0,()]
   have HGW:=J1 (show W2.heap.size≤(wM).heap.size from hS.size)
   replace hS:=J5 hS (J6 (wM) (Obj.cells #[z9,z9,(),(),false,.int .u64 0,()] 68));refine hK.out _ _ hS (fun _=>?_);clear hK K
   try simp only[Act.put,A7,C4,C5]
   refine wpAnyH_ready (rs:=[3]) (by kernel_rfl) (by simp) ?_
   refine J3 rfl (fun K hK=>?_) J4
   rw[if_pos (by kernel_rfl)]
   go_simp
   refine(CD.out ⟨a,uA,uN,uC,pA,pN,pC,Tr.tables a,xA,xN,xC⟩ (fun k=>k<wM.heap.size) _ (J5 HB2.out hS) rfl ((HTM.out.mono fun k _ hlt=>hlt).below (J6 _ _)) (fun k h=>by rw[J2];omega)).mono ?_
   rintro E wD ⟨y,rfl,hya,hyt,hbD⟩
   try dsimp only
   have HBD:=J1 hbD;replace hS:=J5 hS hbD;have HYA:=J1 hya;have HYT:=J1 hyt;clear hya hyt hbD
   replace hq:=hq.below HBD.out (by rw[J2];exact Nat.lt_succ_self _)
   refine hK.out _ _ hS (fun _=>?_);clear hK K
   try simp only[Act.put,A7,C4,C5]
   refine tk9 (i:=4) (v:=?v7) rfl (Or.inl ⟨by rfl,?hy7⟩) hS ?rest7
   case hy7=>(intro w hSw;go_simp;try with_reducible rfl)
   try simp only[Act.put,A7,C4,C5]
   refine tk9 (i:=5) (v:=?v8) rfl (Or.inl ⟨by rfl,?hy8⟩) hS ?rest8
   case hy8=>(intro w hSw;go_simp;try with_reducible rfl)
   try simp only[Act.put,A7,C4,C5]
   refine tk9 (i:=6) (v:=?v9) rfl (Or.inl ⟨by rfl,?hy9⟩) hS ?rest9
   case hy9=>(intro w hSw;go_simp;try with_reducible rfl)
   try simp only[Act.put,A7,C4,C5]
   refine wpAnyH_ready (rs:=[8]) (by kernel_rfl) (by simp) ?_
   refine J3 rfl (fun K hK=>?_) J4
   rw[if_pos (by kernel_rfl)]
   refine wp_store_mid 68 _ _ rfl wM.heap.size 0 (.int .i64 y.a.k::.int .i64 y.a.t::.slice y.uA y.uN y.uC::.slice y.pA y.pN y.pC::.bool y.a.h::.int .u64 (y.n:Int)::.slice y.xA y.xN y.xC::[]).toArray rfl rfl (Lies.there hq rfl) (by kernel_rfl) (by rw[←G0];rfl) ?_
   obtain⟨W9,hW9⟩:∃W9,W9=setCells (wD) (wM.heap.size) 0 (.int .i64 y.a.k::.int .i64 y.a.t::.slice y.uA y.uN y.uC::.slice y.pA y.pN y.pC::.bool y.a.h::.int .u64 (y.n:Int)::.slice y.xA y.xN y.xC::[]):=⟨_,rfl⟩;rw[L6];rw[←hW9]
   have hk9:Keeps (fun k=>k≠wM.heap.size) (wD) W9:=⟨by rw[hW9];exact V6 _ _ _ _,by rw[hW9];exact S0 _ _ _ _,by rw[hW9];exact Q1 _ _ _ _,by rw[hW9,N0];exact C3 _,fun k _ hne=>by rw[hW9];exact M6 _ _ hne _ _ _⟩
   have hq9:Lies W9 (wM.heap.size) 68 (.int .i64 y.a.k::.int .i64 y.a.t::.slice y.uA y.uN y.uC::.slice y.pA y.pN y.pC::.bool y.a.h::.int .u64 (y.n:Int)::.slice y.xA y.xN y.xC::[]):=by rw[hW9];exact hq.put_all rfl
   clear hW9;have hlow:W2.heap.size≤wM.heap.size:=HGW.out
   have hyt9:TrHang W9 (y.a,y.u,y.p):=(HYT.out.keep (T':=fun _=>True) hk9.size (fun k hk hlt=>⟨(hk9.same k hlt (by rcases hk with hk | hk;omega;rw[J2]at hk;omega)),trivial⟩)).hang
   replace hS:Below W2 W2 W9:=⟨hk9.os.trans hS.os,hk9.tape.trans hS.tape,hk9.output.trans hS.output,D5 hS.size hk9.size,fun k hk=>(hk9.same k (C9 hk hS.size) (by omega)).trans (hS.block k hk)⟩
   clear hk9 hq;refine hK.out _ _ hS (fun _=>?_);clear hK K
   try simp only[Act.put,A7]
   refine tk9 (i:=9) (v:=?v10) rfl (Or.inl ⟨by rfl,?hy10⟩) hS ?rest10
   case hy10=>(intro w hSw;go_simp;try with_reducible rfl)
   try simp only[Act.put]
   refine wpAnyH_done (by kernel_rfl) ?_ _
   have HL9:=J1 hq9
   have HG9:=J1 (show W2.heap.size≤wM.heap.size from hlow)
   obtain⟨g,hg⟩:∃g,g=wM.heap.size:=⟨_,rfl⟩;rw[←hg]at HL9 HG9 ⊢;clear hg hq9 hlow;have HB9:=J1 (J5 HB2.out hS);clear hS
   rotate_left
   rw[if_pos (by kernel_rfl)]
   go_simp;have hq:=Lies.new (W2.drew) 68 [z9,z9,(),(),false,.int .u64 0,()]
   have HGW:=J1 (show W2.heap.size≤(W2.drew).heap.size from hS.size)
   replace hS:=J5 hS (J6 (W2.drew) (Obj.cells #[z9,z9,(),(),false,.int .u64 0,()] 68));refine hK.out _ _ hS (fun _=>?_);clear hK K
   try simp only[Act.put,A7,C4,C5]
   refine wpAnyH_ready (rs:=[2]) (by kernel_rfl) (by simp) ?_
   refine J3 rfl (fun K hK=>?_) J4
   rw[if_pos (by kernel_rfl)]
   go_simp;refine(CM.out _ (J5 HB2.out hS)).mono ?_;rintro E wM ⟨xA,xN,xC,rfl,htM,hbM⟩
   try dsimp only
   have HTM:=J1 htM;have hW2M:W2.heap.size≤((W2.drew.alloc (Obj.cells #[z9,z9,(),(),false,.int .u64 0,()] 68))).heap.size:=hS.size
   have HWM:=J1 (show W2.heap.size≤((W2.drew.alloc (Obj.cells #[z9,z9,(),(),false,.int .u64 0,()] 68))).heap.size∧((W2.drew.alloc (Obj.cells #[z9,z9,(),(),false,.int .u64 0,()] 68))).heap.size≤wM.heap.size from⟨hS.size,hbM.size⟩)
   replace hS:=J5 hS hbM;clear htM hW2M;refine hK.out _ _ hS (fun _=>?_);clear hK K
   try simp only[Act.put,A7,C4,C5]
   have hq:=hq.below hbM (by rw[J2];exact Nat.lt_succ_self _)
   refine wpAnyH_ready (rs:=[3]) (by kernel_rfl) (by simp) ?_
   refine J3 rfl (fun K hK=>?_) J4
   rw[if_pos (by kernel_rfl)]
   go_simp
   refine(CD.out ⟨a,uA,uN,uC,pA,pN,pC,Tr.tables a,xA,xN,xC⟩ (fun k=>(k<w.heap.size∨W2.heap.size+1≤k)∧k<wM.heap.size) _ (J5 HB2.out hS) rfl (HTM.out.mono fun k hk hlt=>⟨hk.imp id (fun h=>by rw[J2]at h;exact h),hlt⟩) (fun k h=>h.2)).mono ?_
   rintro E wD ⟨y,rfl,hya,hyt,hbD⟩
   try dsimp only
   have HBD:=J1 hbD;replace hS:=J5 hS hbD;have HYA:=J1 hya;have HYT:=J1 hyt;clear hya hyt hbD
   replace hq:=hq.below HBD.out (C9 (Nat.lt_succ_self _) (by have:=HWM.out.2;rw[J2]at this;exact this))
   refine hK.out _ _ hS (fun _=>?_);clear hK K
   try simp only[Act.put,A7,C4,C5]
   refine tk9 (i:=4) (v:=?v11) rfl (Or.inl ⟨by rfl,?hy11⟩) hS ?rest11
   case hy11=>(intro w hSw;go_simp;try with_reducible rfl)
   try simp only[Act.put,A7,C4,C5]
   refine tk9 (i:=5) (v:=?v12) rfl (Or.inl ⟨by rfl,?hy12⟩) hS ?rest12
   case hy12=>(intro w hSw;go_simp;try with_reducible rfl)
   try simp only[Act.put,A7,C4,C5]
   refine tk9 (i:=6) (v:=?v13) rfl (Or.inl ⟨by rfl,?hy13⟩) hS ?rest13
   case hy13=>(intro w hSw;go_simp;try with_reducible rfl)
   try simp only[Act.put,A7,C4,C5]
   refine wpAnyH_ready (rs:=[8]) (by kernel_rfl) (by simp) ?_
   refine J3 rfl (fun K hK=>?_) J4
   rw[if_pos (by kernel_rfl)]
   refine wp_store_mid 68 _ _ rfl W2.heap.size 0 (.int .i64 y.a.k::.int .i64 y.a.t::.slice y.uA y.uN y.uC::.slice y.pA y.pN y.pC::.bool y.a.h::.int .u64 (y.n:Int)::.slice y.xA y.xN y.xC::[]).toArray rfl rfl (Lies.there hq rfl) (by kernel_rfl) (by rw[←G0];rfl) ?_
   obtain⟨W9,hW9⟩:∃W9,W9=setCells (wD) (W2.heap.size) 0 (.int .i64 y.a.k::.int .i64 y.a.t::.slice y.uA y.uN y.uC::.slice y.pA y.pN y.pC::.bool y.a.h::.int .u64 (y.n:Int)::.slice y.xA y.xN y.xC::[]):=⟨_,rfl⟩;rw[L6];rw[←hW9]
   have hk9:Keeps (fun k=>k≠W2.heap.size) (wD) W9:=⟨by rw[hW9];exact V6 _ _ _ _,by rw[hW9];exact S0 _ _ _ _,by rw[hW9];exact Q1 _ _ _ _,by rw[hW9,N0];exact C3 _,fun k _ hne=>by rw[hW9];exact M6 _ _ hne _ _ _⟩
   have hq9:Lies W9 (W2.heap.size) 68 (.int .i64 y.a.k::.int .i64 y.a.t::.slice y.uA y.uN y.uC::.slice y.pA y.pN y.pC::.bool y.a.h::.int .u64 (y.n:Int)::.slice y.xA y.xN y.xC::[]):=by rw[hW9];exact hq.put_all rfl
   clear hW9;have hlow:W2.heap.size≤W2.heap.size:=C3 _
   have hyt9:TrHang W9 (y.a,y.u,y.p):=(HYT.out.keep (T':=fun _=>True) hk9.size (fun k hk hlt=>⟨(hk9.same k hlt (by have:=HB2.out.size;have:=HS0.out;have:=HWM.out;rw[J2]at this;rcases hk with hk | hk;rcases hk.1 with h | h;omega;omega;have h5:(W2.drew).heap.size=W2.heap.size:=rfl;omega)),trivial⟩)).hang
   replace hS:Below W2 W2 W9:=⟨hk9.os.trans hS.os,hk9.tape.trans hS.tape,hk9.output.trans hS.output,D5 hS.size hk9.size,fun k hk=>(hk9.same k (C9 hk hS.size) (by omega)).trans (hS.block k hk)⟩
   clear hk9 hq;refine hK.out _ _ hS (fun _=>?_);clear hK K
   try simp only[Act.put,A7]
   refine tk9 (i:=9) (v:=?v14) rfl (Or.inl ⟨by rfl,?hy14⟩) hS ?rest14
   case hy14=>(intro w hSw;go_simp;try with_reducible rfl)
   try simp only[Act.put]
   refine wpAnyH_done (by kernel_rfl) ?_ _
   have HL9:=J1 hq9
   have HG9:=J1 (show W2.heap.size≤W2.heap.size from hlow)
   obtain⟨g,hg⟩:∃g,g=W2.heap.size:=⟨_,rfl⟩;rw[←hg]at HL9 HG9 ⊢;clear hg hq9 hlow;have HB9:=J1 (J5 HB2.out hS);clear hS
   rotate_left
   all_goals
    have cp:=A1n y.a (.slice y.uA y.uN y.uC) (.slice y.pA y.pN y.pC) W9 hyt9.1 hyt9.2 (by rw[HYA.out];exact HSZ.out)
    have g0:=HL9.out.c 0 rfl;have g1:=HL9.out.c 1 rfl;have g2:=HL9.out.c 2 rfl;have g3:=HL9.out.c 3 rfl;have g4:=HL9.out.c 4 rfl;clear hyt9;go_wp2_with fail;refine cp.mono ?_;rintro E w10 ⟨u',v',rfl,hon,hb10⟩;obtain⟨A1,c1,hA1,_⟩:=hon.1.elim fun d h=>h.at_.form;obtain⟨A2,c2,hA2,_⟩:=hon.2.elim fun d h=>h.at_.form;change u'=.slice A1 y.a.ks.length c1 at hA1;change v'=.slice A2 y.a.cs.length c2 at hA2;subst hA1 hA2;have HON10:=J1 hon;have HB10:=J1 (J5 HB9.out hb10);have HDD:=J1 (HD.out w10 HB10.out)
    have HS9:=J1 (show W0.heap.size≤W9.heap.size from HB9.out.size)
    have m0:=HDD.out.c 0 rfl;have r0:=HDD.out.free 0;have m1:=HDD.out.c 1 rfl;have r1:=HDD.out.free 1;have m2:=HDD.out.c 2 rfl;have r2:=HDD.out.free 2;have m3:=HDD.out.c 3 rfl;have r3:=HDD.out.free 3;have m4:=HDD.out.c 4 rfl;have r4:=HDD.out.free 4;clear cp g0 g1 g2 g3 g4 hon hb10;go_wp2_with fail;obtain⟨W6,hW6⟩:∃W6,W6=setCells w10 (w.heap.size+1) 0 (y.a.k::y.a.t::.slice A1 y.a.ks.length c1::.slice A2 y.a.cs.length c2::y.a.h::[]):=⟨_,rfl⟩
    obtain⟨hl,hb6,hk6,_,_⟩:=L9 (P:=Tryz.prog) (L:=(y.a.k::y.a.t::.slice A1 y.a.ks.length c1::.slice A2 y.a.cs.length c2::y.a.h::[])) (w:=w) HDD.out rfl Tryz.underlying26 rfl (by kernel_rfl) (J5 HB0.out HB10.out) (Nat.le_succ _) hW6
    simp only[setCells]at hW6;rw[←hW6];clear hW6;refine bodyPost_ret (v:=.tuple #[.agg (.int .i64 y.a.k::.int .i64 y.a.t::.slice A1 y.a.ks.length c1::.slice A2 y.a.cs.length c2::.bool y.a.h::[]).toArray,D]) (M0 rfl rfl rfl hl) rfl ?_
    exact⟨y.a,_,_,HYA.out.trans HRE.out,by rw[HDE.out],HON10.out.keep hk6.size (fun k hk hlt=>⟨hk6.same k hlt (by have:=HS0.out;have:=HS9.out;omega),by have:=HS0.out;have:=HS9.out;omega⟩),hb6⟩
  ·have hnb:(m == H)=false:=by rw[hm,HH.out];simp;omega
   have HM:=J1 (show m=(q:Int)+1 from by rw[hm];simp)
   clear hm;go_wp2_with fail;rw[←HW2.out]
   go_roundw
   case rel=>exact⟨q+1,by omega,by rw[show(q:Int)+1=((q+1:Nat):Int) by simp],HB12.out⟩
   case measure=>simp[intOf];omega
end Go.Proofs.YtbddhkgbpjhhaaaGreatDoor
