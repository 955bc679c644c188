/-
  PACKAGE ident: named.
-/
import Derived.Test.YtbddhkgbpjhhaaaGreatDoorIdpM
import Derived.Test.YtbddhkgbpjhhaaaGreatDoorGCkA
set_option maxHeartbeats 3200000
set_option maxRecDepth 100000
namespace Go.Proofs.YtbddhkgbpjhhaaaGreatDoor
open Go.RowKit Go.Sort
theorem Y5 (o z:Nd) (w:World) (hp:PsSome w o.p o.a.cs) (hz:z.n<18446744073709551616) (hsz:Pr.sizes o.a.cs≤1000) :
  Calls Tryz.prog 74 #[.agg #[o.a.k,o.a.t,.slice o.uA o.uN o.uC,.slice o.pA o.pN o.pC,o.a.h,.int .u64 (o.n:Int),.slice o.xA o.xN o.xC],.agg #[z.a.k,z.a.t,.slice z.uA z.uN z.uC,.slice z.pA z.pN z.pC,z.a.h,.int .u64 (z.n:Int),.slice z.xA z.xN z.xC]] w fun e w'=>e=.returned (.int .u64 ((Pr.tabless o.a.cs &&& z.n:Nat):Int))∧Below w w w':=by
 obtain⟨d,hp⟩:=hp;obtain⟨oa,uA,uN,uC,pA,pN,pC,on,xA,xN,xC⟩:=o;obtain⟨za,vA,vN,vC,qA,qN,qC,zn,yA,yN,yC⟩:=z;change PsAt d w (.slice pA pN pC) oa.cs at hp;change zn<_ at hz;change Pr.sizes oa.cs≤1000 at hsz;obtain⟨A,c,hA,hl⟩:=hp.form;cases hA;dsimp only;obtain⟨W0,hW0⟩:∃W0,W0=(w.alloc (Obj.cells #[oa.k,oa.t,.slice uA uN uC,.slice pA oa.cs.length pC,oa.h,.int .u64 (on:Int),.slice xA xN xC] 68)).alloc (Obj.cells #[za.k,za.t,.slice vA vN vC,.slice qA qN qC,za.h,.int .u64 (zn:Int),.slice yA yN yC] 68):=⟨_,rfl⟩;obtain⟨l0,l1,hb0⟩:=Q0 (cs:=[oa.k,oa.t,.slice uA uN uC,.slice pA oa.cs.length pC,oa.h,.int .u64 (on:Int),.slice xA xN xC]) (ds:=[za.k,za.t,.slice vA vN vC,.slice qA qN qC,za.h,.int .u64 (zn:Int),.slice yA yN yC]) hW0;have HU:=J1 (hp.below hb0 (C3 _));have hlen:oa.cs.length≤1000:=D5 (Pr.sizes_length _) hsz;have HW:=J1 hW0;have HX:=J1 (fun W (h:Below W0 W0 W)=>(l1.below h l1.lt).c 5 rfl);have x3:=l0.c 3 rfl;obtain⟨cs,hcs⟩:∃cs,cs=oa.cs:=⟨_,rfl⟩;rw[←hcs]at HU hlen hl x3 HW ⊢;obtain⟨n,hn⟩:∃n,n=cs.length:=⟨_,rfl⟩;rw[←hn]at HU hlen hl x3 HW ⊢;have HN:=J1 hn;have HB0:=J1 hb0;have HZ:=J1 hz;clear hW0 l0 l1 hb0 hp hsz hcs hn hz;go_enter Tryz.func74,Tryz.ntmps74
 go_upto_region 1 with(fail)
 rw[←HW.out];go_wp2_with fail
 go_loopw [5,12] (fun s i wr=>∃q sv:Nat,q≤n∧i=.int .i64 q∧s=.int .u64 sv∧Hid (sv=Pr.tabless (cs.take q))∧Below W0 W0 wr) (fun _ i _=>n-(intOf i).toNat)
 case atStart=>exact⟨0,0,E3 _,rfl,rfl,J1 (by rw[F8,Pr.tabless]),Below.refl _ _⟩
 case round =>
  obtain⟨q,sv,hq,rfl,rfl,hsv,hb⟩:=hrel
  by_cases hlt:q<n
  ·obtain⟨p,gp⟩:∃p,cs[q]?=some p:=⟨cs[q]'(by have:=HN.out;omega),A8 _⟩
   have hu:=HU.out;rw[HN.out]at hu;obtain⟨e,b,o',s,v,he,rfl,_,hx⟩:=hu.at_ gp;obtain⟨hcell,hps0⟩:=hx wr hb;obtain⟨VA,VC,rfl,_⟩:=hps0.form;obtain⟨w1,hw1⟩:∃w1,w1=wr.alloc (Obj.cells #[p.f.k,p.f.u,p.f.o,p.f.a.k,p.f.a.t,p.f.a.c,p.f.a.z,p.f.a.n,p.f.b.k,p.f.b.t,p.f.b.c,p.f.b.z,p.f.b.n,.slice VA p.ps.length VC] 57):=⟨_,rfl⟩
   have hb1:Below wr wr w1:=by rw[hw1];exact J6 _ _
   obtain⟨_,hps⟩:=hx w1 (J5 hb hb1);have cc:=A1D e p.f _ p.ps w1 hps
   have ht:cs.take (q+1)=cs.take q++[p]:=by rw[D7,gp];rfl
   have hpe:Pd.mk p.f p.ps=p:=by cases p;rfl
   rw[hpe]at cc
   have hsl:sv<18446744073709551616:=by rw[hsv.out];exact R4 _
   have H2:=J1 (u64_or_nat sv (Pr.tables p) hsl (A0b p))
   have H3:=J1 (show sv ||| Pr.tables p=Pr.tabless (cs.take (q+1)) by rw[ht,Pr.tabless_snoc,hsv.out])
   have HB1:=J1 (J5 hb hb1);have HW1:=J1 hw1;obtain⟨q0,q1,q2,q3,q4,q5,q6,q7,q8,q9,q10,q11,q12,q13⟩:=hcell
   have i2:(q:Int)<(n:Int):=by omega
   clear gp hx hps hps0 ht hpe hsl hu hw1 hb1 hb hsv;go_wp2_with fail;rw[←HW1.out];refine cc.mono ?_;rintro e w2 ⟨rfl,hb2⟩;have HB2:=J1 (J5 HB1.out hb2);clear cc q0 q1 q2 q3 q4 q5 q6 q7 q8 q9 q10 q11 q12 q13 hb2;go_wp2_with fail
   go_roundw
   case rel=>exact⟨q+1,_,by omega,by go_num,by rw[H2.out],H3,HB2.out⟩
   case measure=>simp[intOf];omega
  ·have he:Hid (sv=Pr.tabless cs):=J1 (by rw[hsv.out,C7 (by have:=HN.out;omega)])
   have x5:=HX.out wr hb;have HB:=J1 hb
   have i2:¬((q:Int)<(n:Int)):=by omega
   have HA:=J1 (u64_and_nat sv zn (by rw[he.out];exact R4 _) HZ.out)
   clear hb hsv;go_wp2_with fail;go_ret
   exact⟨M1 (by rw[HA.out,he.out]),J5 HB0.out HB.out⟩
end Go.Proofs.YtbddhkgbpjhhaaaGreatDoor
