/-
  PACKAGE ident: a function that is handed trees; what a tour hands on: the tree around what comes of a kid.
-/
import Derived.Test.YtbddhkgbpjhhaaaGreatDoorIdcM
import Derived.Test.YtbddhkgbpjhhaaaGreatDoorGTreeB
set_option maxHeartbeats 6400000
set_option maxRecDepth 100000
namespace Go.Proofs.YtbddhkgbpjhhaaaGreatDoor
open Go.RowKit Go.Sort
def Handed (H:List Tr→(Nat→Prop)→World→Prop) (L:List Tr) (O:Nat→Prop) (w:World) (E:Ending) (w':World):Prop :=
 (∃r,E=.returned r)∧∃O',H L O' w'∧Keeps (fun k=>¬O k) w w'∧∀k,O' k→O k∨w.heap.size≤k
structure Hand (N B:Nat) (S:Nat→Prop) (H:List Tr→(Nat→Prop)→World→Prop) (f:FuncId) (cs:Array Value):Prop where
 enter:∀(args:Array Value) (W:World),(callFunc f args).run Tryz.prog W=.ok (.enter f args) W
 keep:∀L O w w',H L O w→Keeps (fun k=>O k∨S k) w w'→H L O w'
 own:∀L O w,H L O w→∀k,(O k→k<w.heap.size)∧(S k→k<w.heap.size∧¬O k)
 call:∀L O w (t:Tr) (u v:Value),H L O w→TrOn (fun k=>¬O k) w (t,u,v)→Tr.size t=N→L.length<B→Calls Tryz.prog f (#[.agg #[t.k,t.t,u,v,t.h]]++cs) w (Handed H (L++[t]) O w)
def R6 (a:Tr) (i:Nat) (t:Tr):Tr:=.mk a.k a.t a.h a.cs (a.ks.set i t)
structure ArEnv (T:Nat→Prop) (bn bi bh:Nat) (z:Nd) (i:Nat) (f:FuncId) (cs:Array Value) (w:World):Prop where
 n:Lies w bn 68 [z.a.k,z.a.t,.slice z.uA z.uN z.uC,.slice z.pA z.pN z.pC,z.a.h,.int .u64 (z.n:Int),.slice z.xA z.xN z.xC]
 i:Lies w bi 3 [(i:Int)]
 h:Lies w bh 71 [.func (.func f) #[] cs]
 z:TNd T w z
theorem A5Y (N B:Nat) (S:Nat→Prop) (H:List Tr→(Nat→Prop)→World→Prop) (f:FuncId) (cs:Array Value) (hh:Hand N B S H f cs) (T:Nat→Prop) (bn bi bh:Nat) (z:Nd) (x y:Tr) (hk:z.a.ks=[x,y]) (i:Nat) (hi:i<2)
  (L:List Tr) (O:Nat→Prop) (w:World) (t:Tr) (u v:Value) (hH:H L O w) (henv:ArEnv T bn bi bh z i f cs w) (hTO:∀k,T k→¬O k) (ht:TrOn (fun k=>¬O k) w (t,u,v)) (hs:Tr.size (R6 z.a i t)=N) (hLB:L.length<B) :
  Calls Tryz.prog 53 #[.agg #[t.k,t.t,u,v,t.h],.pointer (some ⟨bn,0,none⟩),.pointer (some ⟨bi,0,none⟩),.pointer (some ⟨bh,0,none⟩)] w (Handed H (L++[R6 z.a i t]) O w):=by
 obtain⟨tA,tC,e1,_⟩:=ht.1.elim fun d h=>h.at_.form;obtain⟨sA,sC,e2,_⟩:=ht.2.elim fun d h=>h.at_.form;change u=.slice tA t.ks.length tC at e1;change v=.slice sA t.cs.length sC at e2;subst e1 e2;obtain⟨hn,hil,hhl,hz⟩:=henv
 -- the kids of the node, in a row that came
 obtain⟨du,hu⟩:=hz.tr.1
 have huN:z.uN=2:=by rw[hz.uN,hk];rfl
 have hu2:TsOn T du w (.slice z.uA z.a.ks.length z.uC) z.a.ks:=by rw[←hz.uN];exact hu
 obtain⟨d1,b0,o0,s0,xu,xv,hd1,hA1,hTb,hbl,_,_,cx,px,kx⟩:=hu2.one (j:=0) (a:=x) (by rw[hk];rfl)
 obtain⟨d2,b0',o0',s0',yu,yv,hd2,hA2,_,_,_,_,cy,py,ky⟩:=hu2.one (j:=1) (a:=y) (by rw[hk];rfl)
 obtain⟨rfl,rfl,rfl⟩:b0=b0'∧o0=o0'∧s0=s0':=by
  rw[hA1]at hA2;simp only[Option.some.injEq,Addr.mk.injEq]at hA2;exact hA2
 obtain⟨M,hM⟩:∃M:List TrV,M=[(x,xu,xv),(y,yu,yv)]:=⟨_,rfl⟩
 have hMc:∀(j:Nat) (m:TrV),M[j]?=some m→TrCell w ((⟨b0,o0,s0⟩:Addr).add (j*5)) m.1 m.2.1 m.2.2∧TrOn T w m:=by
  intro j m hm;rw[hM]at hm
  match j,hm with
  | 0,hm=>cases hm;exact⟨cx,⟨d1,kx⟩,px⟩
  | 1,hm=>cases hm;exact⟨cy,⟨d2,ky⟩,py⟩
 have hMl:M.length=2:=by rw[hM];rfl
 have hMk:M.map (·.1)=z.a.ks:=by rw[hM,hk];rfl
 obtain⟨W1,hW1⟩:∃W1,W1=(w.alloc (Obj.cells #[t.k,t.t,.slice tA t.ks.length tC,.slice sA t.cs.length sC,t.h] 26)).alloc (Obj.cells #[z.a.k,z.a.t,.slice z.uA z.uN z.uC,.slice z.pA z.pN z.pC,z.a.h] 26):=⟨_,rfl⟩;obtain⟨l4,l5,hb1⟩:=Q0 (cs:=[t.k,t.t,.slice tA t.ks.length tC,.slice sA t.cs.length sC,t.h]) (ds:=[z.a.k,z.a.t,.slice z.uA z.uN z.uC,.slice z.pA z.pN z.pC,z.a.h]) hW1
 have hs1:W1.heap.size=w.heap.size+1+1:=by rw[hW1,J2,J2]
 have cc:=X7 ⟨b0,o0,s0⟩ 2 z.uC (trCells M) W1 (by rw[M7,hMl]) (fun k m h=>(World.cell?_of_block (hb1.block _ (block_lt_of_cell (Y1 (fun j m h=>(hMc j m h).1) k m h)))).trans (Y1 (fun j m h=>(hMc j m h).1) k m h)) (A0s (w:=w) fun m hm=>by
  obtain⟨j,hj⟩:=List.mem_iff_getElem?.1 hm
  exact(hMc j m hj).2.hang) (by decide)
 have HN:=J1 (fun W (h:Below w w W)=>(h.block bn hn.lt).trans hn);have HI:=J1 (fun W (h:Below w w W)=>(h.block bi hil.lt).trans hil);have HHL:=J1 (fun W (h:Below w w W)=>(h.block bh hhl.lt).trans hhl);have HZ:=J1 hz;have HT0:=J1 ht;have HMC:=J1 hMc;have HML:=J1 hMl;have HMK:=J1 hMk;have HH:=J1 hh;have HHH:=J1 hH;have HTO:=J1 hTO;have HSZ:=J1 hs;have HLB:=J1 hLB;have HKK:=J1 hk;have HL4:=J1 l4;have HL5:=J1 l5;have HW1:=J1 hW1;have HB1:=J1 hb1;have HS1:=J1 hs1;have hent:=hh.enter;have n0:=hn.c 0 rfl;have n1:=hn.c 1 rfl;have n2:=hn.c 2 rfl;have n3:=hn.c 3 rfl;have n4:=hn.c 4 rfl;rw[huN,hA1]at n2;rw[huN,hA1]at HW1 HL5 HN;have hnl:bn<w.heap.size:=hn.lt;have b2:=(hb1.cell (p:=⟨bn,2,none⟩) hnl).trans n2;have a0:=((J6 w (Obj.cells #[t.k,t.t,.slice tA t.ks.length tC,.slice sA t.cs.length sC,t.h] 26)).cell (p:=⟨bn,0,none⟩) hnl).trans n0;have a1:=((J6 w (Obj.cells #[t.k,t.t,.slice tA t.ks.length tC,.slice sA t.cs.length sC,t.h] 26)).cell (p:=⟨bn,1,none⟩) hnl).trans n1;have a2:=((J6 w (Obj.cells #[t.k,t.t,.slice tA t.ks.length tC,.slice sA t.cs.length sC,t.h] 26)).cell (p:=⟨bn,2,none⟩) hnl).trans n2;have a3:=((J6 w (Obj.cells #[t.k,t.t,.slice tA t.ks.length tC,.slice sA t.cs.length sC,t.h] 26)).cell (p:=⟨bn,3,none⟩) hnl).trans n3;have a4:=((J6 w (Obj.cells #[t.k,t.t,.slice tA t.ks.length tC,.slice sA t.cs.length sC,t.h] 26)).cell (p:=⟨bn,4,none⟩) hnl).trans n4;clear hLB hn hil hhl hz hu hu2 hA1 hA2 hTb hbl cx px kx cy py ky hMc hMl hMk hM hW1 l4 l5 hb1 hs1 hh hH hTO ht hs hk huN hd1 hd2 n0 n1 n2 n3 n4;go_enter Tryz.func53,Tryz.ntmps53
 go_upto_region 2 with(fail)
 rw[←HW1.out];go_wp2_with fail;refine cc.mono ?_;rintro E w2 ⟨A,c',rfl,hc',hb2,hor⟩
 obtain⟨g,rfl,hg,hrow⟩:=hor.resolve_left (by decide)
 clear cc b2 a0 a1 a2 a3 a4 hor;have hbw2:=J5 HB1.out hb2;have hq5:=HL5.out.below hb2 HL5.out.lt;have hq4:=HL4.out.below hb2 HL4.out.lt;obtain⟨W3,hW3⟩:∃W3,W3=w2.setCell ⟨w.heap.size+1,2,none⟩ (.slice (some ⟨g,0,none⟩) 2 c'):=⟨_,rfl⟩
 have l5:Lies W3 (w.heap.size+1) 26 [z.a.k,z.a.t,.slice (some ⟨g,0,none⟩) 2 c',.slice z.pA z.pN z.pC,z.a.h]:=by rw[hW3];exact hq5.set 2 _
 have hs1:=HS1.out
 have l4:Lies W3 w.heap.size 26 [t.k,t.t,.slice tA t.ks.length tC,.slice sA t.cs.length sC,t.h]:=by rw[hW3];exact hq4.far (by show w.heap.size≠w.heap.size+1;omega) _
 have hr3:RowLies W3 g 26 (trCells M):=hrow.block (by rw[hW3];exact Below.heap_setCell _ _ _ _ (by show g≠w.heap.size+1;omega))
 have hb3:Below w w W3:=by rw[hW3];exact hbw2.setCell (Nat.le_succ _) _
 have hiM:i<M.length:=by rw[HML.out];exact hi
 obtain⟨u1,u2,u3⟩:=Y7 (y:=(t,.slice tA t.ks.length tC,.slice sA t.cs.length sC)) hiM;obtain⟨W4,hW4⟩:∃W4,W4=setCells W3 g (i*5) [t.k,t.t,.slice tA t.ks.length tC,.slice sA t.cs.length sC,t.h]:=⟨_,rfl⟩
 have hr4:RowLies W4 g 26 (trCells (M.set i (t,.slice tA t.ks.length tC,.slice sA t.cs.length sC))):=by
  rw[hW4]
  exact RowLies.sets (ys:=[t.k,t.t,.slice tA t.ks.length tC,.slice sA t.cs.length sC,t.h]) (o:=i*5) hr3 u1 (by rw[M7];show i*5+5≤_;omega) u2 (fun k hk=>u3 k hk)
 have hb4:Below w w W4:=by rw[hW4];exact Below.sets (by omega) _ _ hb3
 have l54:Lies W4 (w.heap.size+1) 26 [z.a.k,z.a.t,.slice (some ⟨g,0,none⟩) 2 c',.slice z.pA z.pN z.pC,z.a.h]:=by rw[hW4];exact(M6 _ _ (by omega) _ _ _).trans l5
 have i1:(0:Int)≤(i:Int):=by omega
 have i2:(i:Int)<2:=by omega
 obtain⟨mi,hmi⟩:∃m,M[i]?=some m:=⟨M[i],A8 hiM⟩;obtain⟨y0,y1,y2,y3,y4⟩:=hr3.tr hmi;have f0:=hr3.free (i*5);have f1:=hr3.free (i*5+1);have f2:=hr3.free (i*5+2);have f3:=hr3.free (i*5+3);have f4:=hr3.free (i*5+4)
 -- the tree around
 have htr:TrOn (fun k=>¬O k) W4 (R6 z.a i t,.slice (some ⟨g,0,none⟩) 2 c',.slice z.pA z.pN z.pC):=by
  have hown:=HH.out.own _ _ _ HHH.out
  have hgO:¬O g:=fun h=>by have:=(hown g).1 h;omega
  have hkp:∀k,k<w.heap.size→W4.heap[k]?=w.heap[k]?:=fun k hk=>hb4.block k hk
  have each:∀(j:Nat) (m:TrV),(M.set i (t,.slice tA t.ks.length tC,.slice sA t.cs.length sC))[j]?=some m→TrOn (fun k=>¬O k) W4 m:=fun j m hm=>by
   by_cases hj:i=j
   ·subst hj;rw[List.getElem?_set_self hiM]at hm;cases hm;exact HT0.out.keep hb4.size fun k hk hlt=>⟨hkp k hlt,hk⟩
   ·rw[List.getElem?_set_ne hj]at hm;exact(HMC.out j m hm).2.keep hb4.size fun k hk hlt=>⟨hkp k hlt,HTO.out k hk⟩
  have hds:∃D,∀(j:Nat) (m:TrV),(M.set i (t,.slice tA t.ks.length tC,.slice sA t.cs.length sC))[j]?=some m→TsOn (fun k=>¬O k) D W4 m.2.1 m.1.ks:=by
   obtain⟨m0,h0⟩:∃m,(M.set i (t,.slice tA t.ks.length tC,.slice sA t.cs.length sC))[0]?=some m:=⟨_,A8 (by rw[List.length_set,HML.out];decide)⟩
   obtain⟨m1,h1⟩:∃m,(M.set i (t,.slice tA t.ks.length tC,.slice sA t.cs.length sC))[1]?=some m:=⟨_,A8 (by rw[List.length_set,HML.out];decide)⟩
   obtain⟨D0,k0⟩:=(each 0 m0 h0).1;obtain⟨D1,k1⟩:=(each 1 m1 h1).1;refine⟨max D0 D1,fun j m hm=>?_⟩
   have hj:j<2:=by have:=(D8.1 hm).1;rwa[List.length_set,HML.out]at this
   obtain rfl | rfl:j=0∨j=1:=by omega
   ·rw[h0]at hm;cases hm;exact k0.mono (Nat.le_max_left _ _)
   ·rw[h1]at hm;cases hm;exact k1.mono (Nat.le_max_right _ _)
  obtain⟨D,hD⟩:=hds
  have hmap:(M.set i (t,.slice tA t.ks.length tC,.slice sA t.cs.length sC)).map (·.1)=z.a.ks.set i t:=by rw[List.map_set,HMK.out]
  have hl2:(z.a.ks.set i t).length=2:=by rw[List.length_set,HKK.out];rfl
  refine⟨⟨D+1,_,c',by show Value.slice _ 2 c'=.slice _ (z.a.ks.set i t).length c';rw[hl2],by show(z.a.ks.set i t).length≤_∧(z.a.ks.set i t).length≤_;rw[hl2];exact⟨by decide,hc'⟩,fun j b hj=>?_⟩,?_⟩
  ·change (z.a.ks.set i t)[j]?=some b at hj;rw[←hmap,F5]at hj;obtain⟨m,hm,rfl⟩:=Option.map_eq_some_iff.1 hj
   exact⟨g,0,none,m.2.1,m.2.2,rfl,hgO,hr4.lt,by rw[S5];exact hr4.tr hm,(each j m hm).2,hD j m hm⟩
  ·exact HZ.out.tr.2.elim fun e h=>⟨e,h.keep hb4.size fun k hk hlt=>⟨hkp k hlt,HTO.out k hk⟩⟩
 have hH4:=HH.out.keep _ _ _ W4 HHH.out ⟨hb4.os,hb4.tape,hb4.output,hb4.size,fun k hk _=>hb4.block k hk⟩;have ch:=HH.out.call L O W4 (R6 z.a i t) _ _ hH4 htr HSZ.out HLB.out;have HTR:=J1 htr;have HW3:=J1 hW3;have HW4:=J1 hW4;have HB4:=J1 hb4;have HL4:=J1 l4;have HL5:=J1 l5;have HL54:=J1 l54;have HI3:Lies W3 bi 3 [(i:Int)]:=HI.out W3 hb3;have HH4:Lies W4 bh 71 [.func (.func f) #[] cs]:=HHL.out W4 hb4;have HHH4:=J1 HH4;have r2:=hq5.c 2 rfl;have rf:=hq5.free 2;have CH:=J1 ch;clear hg hrow hbw2 hq5 hq4 hW3 l5 l4 hr3 hb3 u1 u2 u3 hW4 hr4 hb4 l54 hmi htr hH4 hb2 hs1 ch HH4
 go_upto_region 3 with(fail)
 rw[←HW3.out];have v2:=HL5.out.c 2 rfl;have vi:=HI3.c 0 rfl;have t0:=HL4.out.c 0 rfl;have t1:=HL4.out.c 1 rfl;have t2:=HL4.out.c 2 rfl;have t3:=HL4.out.c 3 rfl;have t4:=HL4.out.c 4 rfl;clear r2 rf
 go_upto_region 4 with(fail)
 have hW4:=HW4.out;simp only[setCells]at hW4;rw[←hW4];clear hW4 v2 vi t0 t1 t2 t3 t4 y0 y1 y2 y3 y4 f0 f1 f2 f3 f4 HI3;have h0:=HHH4.out.c 0 rfl;have c0:=HL54.out.c 0 rfl;have c1:=HL54.out.c 1 rfl;have c2:=HL54.out.c 2 rfl;have c3:=HL54.out.c 3 rfl;have c4:=HL54.out.c 4 rfl;go_wp2_with fail;refine CH.out.mono ?_;rintro E w5 ⟨⟨r,rfl⟩,O',hH5,hk5,hO5⟩
 have HRES:=J1 (show ∃O',H (L++[R6 z.a i t]) O' w5∧Keeps (fun k=>¬O k) w w5∧∀k,O' k→O k∨w.heap.size≤k from
  ⟨O',hH5,(⟨HB4.out.os,HB4.out.tape,HB4.out.output,HB4.out.size,fun k hk _=>HB4.out.block k hk⟩:Keeps (fun k=>¬O k) w W4).trans hk5,fun k hk=>(hO5 k hk).imp id (fun h=>D5 HB4.out.size h)⟩)
 clear h0 c0 c1 c2 c3 c4 hH5 hk5 hO5;go_wp2_with fail
 go_end0
 exact⟨⟨_,rfl⟩,HRES.out⟩
end Go.Proofs.YtbddhkgbpjhhaaaGreatDoor
