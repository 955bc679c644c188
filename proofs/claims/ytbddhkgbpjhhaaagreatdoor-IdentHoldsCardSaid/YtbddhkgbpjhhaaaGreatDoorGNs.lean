/-
  LAID TOGETHER, BY PROGRAM, of: Nsj, Nsi, Nso.
-/
import Derived.Test.YtbddhkgbpjhhaaaGreatDoorGPl2
import Derived.Test.YtbddhkgbpjhhaaaGreatDoorGMtC
import Derived.Test.YtbddhkgbpjhhaaaGreatDoorGIter
import Derived.Test.YtbddhkgbpjhhaaaGreatDoorGTreeB
import Derived.Laws.EntriesVeiled
set_option maxHeartbeats 3200000
set_option maxRecDepth 100000
namespace Go.Proofs.YtbddhkgbpjhhaaaGreatDoor
open Go.RowKit Go.Sort
variable {w w':World} {v:Value}
theorem TuRow.pushes {R:Nat→Prop} {base n m:Nat} {us news:List Value} {ts xs:List (List (List Vl))} {v':Value} (h:TuRow R base w v n us ts) (hl:xs.length=m) (hu:∀(i:Nat) (t:List (List Vl)),xs[i]?=some t→∃u,news[i]?=some u∧RwsOn (fun k=>v.ownBlock≠some k∧R k) w u t)
  (hown:w'.ownsRow base 33 1 v' (n+m) (us++news)) (hg:w.grownBy w' v.ownBlock) (hw:v'.ownBlock=v.ownBlock∨∃g,v'.ownBlock=some g∧w.heap.size≤g):TuRow R base w' v' (n+m) (us++news) (ts++xs):=by
 have hkp:∀{x:Value} {y:List (List Vl)},RwsOn (fun k=>v.ownBlock≠some k∧R k) w x y→RwsOn (fun k=>v'.ownBlock≠some k∧R k) w' x y:=fun {x y} hx=>by
  have h1:RwsOn (fun k=>(v.ownBlock≠some k∧R k)∧k<w.heap.size) w x y:=hx.mono fun k hk1 hk2=>⟨hk2,hk1⟩;refine(h1.keep (S9 hg) fun _ _ hk2=>hk2.1.1).mono fun _ _ hk2=>⟨?_,hk2.1.2⟩
  rcases hw with e | ⟨g,e,hge⟩
  ·rw[e];exact hk2.1.1
  ·rw[e];intro e2;cases e2;have:=hk2.2;omega
 have hul:us.length=n:=by have:=h.own.1;omega
 have htl:ts.length=n:=h.len
 refine⟨hown,by rw[C6,htl,hl],fun i x hi=>?_⟩
 by_cases e:i<ts.length
 ·rw[F2 e]at hi;obtain⟨y,hy,hr⟩:=h.tup i x hi
  exact⟨y,by rw[F2 (by omega)];exact hy,hkp hr⟩
 ·rw[E8 (by omega)]at hi
  obtain⟨y,hy,hr⟩:=hu _ x hi
  exact⟨y,by rw[E8 (by omega),hul,←htl];exact hy,hkp hr⟩
theorem TuRow.more {R S:Nat→Prop} {base n m c:Nat} {us:List Value} {ts xs:List (List (List Vl))} {A:Option Addr} (h:TuRow R base w v n us ts) (hx:TusOn S w (.slice A m c) xs) (hS:∀k,k<w.heap.size→S k→v.ownBlock≠some k∧R k) :
  ∃news,news.length=m∧xs.length=m∧(∀u∈news,u.oneCell'=true)∧(0<m→∃ad,A=some ad∧∀(j:Nat) (u:Value),news[j]?=some u→w.cell? (ad.add j)=some u) ∧
   ∀v' w',w'.ownsRow base 33 1 v' (n+m) (us++news)→w.grownBy w' v.ownBlock→(v'.ownBlock=v.ownBlock∨∃g,v'.ownBlock=some g∧w.heap.size≤g)→TuRow R base w' v' (n+m) (us++news) (ts++xs):=by
 obtain⟨us2,hx⟩:=hx
 have hl:us2.length=m:=by obtain⟨A',c',hv,_⟩:=hx.sl;cases hv;rfl
 have hl2:xs.length=m:=by rw[←hx.len];exact hl
 refine⟨us2,hl,hl2,A7M hx,fun h0=>?_,fun v' w' h1 h2 h3=>h.pushes hl2 (fun i t hi=>?_) h1 h2 h3⟩
 ·obtain⟨⟨A',c',hv,hc,hy⟩,_,_⟩:=hx;subst hl;exact SlOn.src (T:=S) (n:=us2.length) (c:=c) ⟨A',c',hv,hc,hy⟩ h0
 ·obtain⟨u,h1,h2⟩:=hx.tup i t hi;exact⟨u,h1,h2.mono hS⟩
end Go.Proofs.YtbddhkgbpjhhaaaGreatDoor
namespace Go.Proofs.YtbddhkgbpjhhaaaGreatDoor
open Go.RowKit Go.Shelf
attribute [local go_sem] Oper.semAt_some
theorem A6V (k:Int) (cv lv rv:Value) (w:World) (hc:∃A n c,cv=.slice A n c) (hl:∃A n c,lv=.slice A n c) (hr:∃A n c,rv=.slice A n c) :
  Calls Tryz.prog 135 #[k,cv,lv,rv] w fun e w'=>e=.returned (.func (.func 152) #[] #[.pointer (some ⟨w.heap.size+1+1,0,none⟩),.pointer (some ⟨w.heap.size,0,none⟩),.pointer (some ⟨w.heap.size+1,0,none⟩),.pointer (some ⟨w.heap.size+1+1+1,0,none⟩)]) ∧
   w'=(((w.alloc (.cells #[k] 3)).alloc (.cells #[cv] 24)).alloc (.cells #[lv] 29)).alloc (.cells #[rv] 29):=by
 obtain⟨A,n,c,rfl⟩:=hc;obtain⟨A',n',c',rfl⟩:=hl;obtain⟨A2,n2,c2,rfl⟩:=hr;go_enter Tryz.func135,Tryz.ntmps135
 go_wp2
 go_ret;exact⟨rfl,rfl⟩
structure NsCells (W:World) (gk gc gl gr:Nat) (k:Int) (cv lv rv:Value):Prop where
 k:W.cell? ⟨gk,0,none⟩=some (.int .i64 k)
 c:W.cell? ⟨gc,0,none⟩=some cv
 l:W.cell? ⟨gl,0,none⟩=some lv
 r:W.cell? ⟨gr,0,none⟩=some rv
theorem NsCells.keep {T:Nat→Prop} {W W':World} {gk gc gl gr:Nat} {k:Int} {cv lv rv:Value} (h:NsCells W gk gc gl gr k cv lv rv) (hk:Keeps T W W') (h1:T gk) (h2:T gc) (h3:T gl) (h4:T gr):NsCells W' gk gc gl gr k cv lv rv :=
 ⟨hk.cell h1 h.k,hk.cell h2 h.c,hk.cell h3 h.l,hk.cell h4 h.r⟩
theorem A8h (w:World) (k:Int) (cv lv rv:Value):NsCells ((((w.alloc (.cells #[k] 3)).alloc (.cells #[cv] 24)).alloc (.cells #[lv] 29)).alloc (.cells #[rv] 29)) w.heap.size (w.heap.size+1) (w.heap.size+1+1) (w.heap.size+1+1+1) k cv lv rv:=by
 have l0:=Lies.new w 3 [k];have l1:=Lies.new (w.alloc (.cells #[k] 3)) 24 [cv];have l2:=Lies.new ((w.alloc (.cells #[k] 3)).alloc (.cells #[cv] 24)) 29 [lv];have l3:=Lies.new (((w.alloc (.cells #[k] 3)).alloc (.cells #[cv] 24)).alloc (.cells #[lv] 29)) 29 [rv];simp only[J2]at l1 l2 l3;exact⟨(((l0.alloc _).alloc _).alloc _).c 0 rfl,((l1.alloc _).alloc _).c 0 rfl,(l2.alloc _).c 0 rfl,l3.c 0 rfl⟩
def NestR (k:Int) (ps:List Pd) (R:List (List (List Vl))) (B:Nat) (O:Nat→Prop) (W:World) (t:List (List Vl)) (vs:Array Value):Prop :=
 ∃A c,vs=#[.slice A (Mt.extend k ps t R).length c]∧TusOn (fun j=>¬O j∧B≤j) W (.slice A (Mt.extend k ps t R).length c) (Mt.extend k ps t R)
theorem A5v (m:Nat) (T:Nat→Prop) (W0:World) (hT:∀j,T j→j<W0.heap.size) (gk gc gl gr:Nat) (k:Int) (d:Nat) (cv lv rv:Value) (ps:List Pd) (L R:List (List (List Vl)))
  (hcells:NsCells W0 gk gc gl gr k cv lv rv) (h1:T gk) (h2:T gc) (h3:T gl) (h4:T gr) (hp:PsOn T d W0 cv ps) (hl:TusOn T W0 lv L) (hr:TusOn T W0 rv R) (hW:∀W,Keeps T W0 W→Want W)
  (hsz:Pr.sizes ps≤1000) (hfl:Ns.Few 10000 100 L) (hfr:Ns.Few 10000 100 R) :
  IterR Fence.wide (m+1) Tryz.prog 152 #[.pointer (some ⟨gl,0,none⟩),.pointer (some ⟨gk,0,none⟩),.pointer (some ⟨gc,0,none⟩),.pointer (some ⟨gr,0,none⟩)] (NestR k ps R) T (fun _ _=>True) (fun W=>Keeps T W0 W) L:=by
 rintro l J Jx W O hpre hJ hJx hO hY h0;obtain⟨P0,p0,rfl,_⟩:=hp.at_.form;obtain⟨L0,c0,rfl,_⟩:=hl.form;obtain⟨R0,c1,rfl,_⟩:=hr.form
 have CE:=J1 (show ∀(lv:Value) (t:List (List Vl)) (W:World),Keeps T W0 W→RwsOn T W lv t→t∈L→_ from fun lv t W hb ht hm =>
  A7j k d _ lv _ ps t R W (hp.keep hb.size (fun j hj hlt=>⟨hb.same j hlt hj,hj⟩)).at_ hsz (hW W hb) ht.al (hr.keep hb fun _ _ h=>h).al (hfl.tup t hm).1 (hfl.tup t hm).2 (D5 hfr.len (by decide)) (fun x hx=>(hfr.tup x hx).1) (fun x hx=>(hfr.tup x hx).2))
 have HC:=J1 (show ∀W,Keeps T W0 W→NsCells W gk gc gl gr k _ _ _ from fun W hb=>hcells.keep hb h1 h2 h3 h4)
 have HL:=J1 hl;obtain⟨n,hn⟩:∃n,n=L.length:=⟨_,rfl⟩;obtain⟨rl,hrl⟩:∃n,n=R.length:=⟨_,rfl⟩;obtain⟨pl,hpl⟩:∃n,n=ps.length:=⟨_,rfl⟩
 have hn100:n≤10000:=by rw[hn];exact hfl.len
 rw[←hn]at HL HC;rw[←hpl,←hrl]at CE HC;have HN:=J1 hn;have HJ:=J1 hJ;have HO:=J1 hO;have HY:=J1 hY;have HT:=J1 hT;have x1:=(HC.out W hpre).l;have HPRE:=J1 hpre;have H0:=J1 h0;clear hpre hJ hJx hO hY h0 hp hl hr hW hsz hfl hfr hcells h1 h2 h3 h4 hn hrl hpl hT;refine callsIn_of_wp Tryz.func152 rfl trivial ?_ rfl;simp only[Tryz.ntmps152,List.size_toArray,G5,List.length_nil,Nat.reduceAdd,Nat.reduceSub,Array.replicate_succ,Array.replicate_zero,List.push_toArray,List.append_toArray,F1,G8]
 gi_wp2_with fail
 clear x1
 gi_loopw [10] (fun i wr=>∃(q:Nat) (O':Nat→Prop),q≤n∧i=.int .i64 q∧J (L.take q) O' wr∧Hid (Keeps T W0 wr∧W.heap.size≤wr.heap.size)) (fun i _=>n-(intOf i).toNat)
 case atStart=>exact⟨0,O,E3 _,rfl,H0.out,J1 ⟨HPRE.out,C3 _⟩⟩
 case round =>
  obtain⟨q,O1,hq,rfl,hj,hkk⟩:=hrel;have hk:=J1 hkk.out.1;have hws:=J1 hkk.out.2;clear hkk
  by_cases hlt:q<n
  ·obtain⟨t,gt⟩:∃t,L[q]?=some t:=⟨L[q]'(by have:=HN.out;omega),A8 _⟩
   obtain⟨b1,o1,p1,B1,d1,hL0,_,hcell,ht⟩:=TusOn.at_keep HL.out hk.out (fun _ h=>h) gt;subst hL0
   have i1:(0:Int)≤(q:Int):=by omega
   have i2:(q:Int)<(n:Int):=by omega
   obtain⟨y1,y2,y3,y4⟩:=HC.out wr hk.out;have cm:=CE.out _ t wr hk.out (ht.keep hk.out fun _ _ h=>h) (C8 gt)
   have htk:L.take (q+1)=L.take q++[t]:=by rw[D7,gt];rfl
   have hpx:L.take q++[t] <+: L:=by rw[←htk];exact List.take_prefix _ _
   have HTK:=J1 htk;obtain⟨M,hM⟩:∃M,M=Mt.extend k ps t R:=⟨_,rfl⟩;rw[←hM]at cm;have HM:=J1 hM;obtain⟨tl,htl'⟩:∃n,n=t.length:=⟨_,rfl⟩;rw[←htl']at cm hcell;have HPX:=J1 hpx;have HLT:=J1 hlt;clear gt ht hM htl' hlt hpx htk;have HJQ:=J1 hj;clear hj
   gi_wp2_with fail
   refine⟨trivial,(callsIn_wide.2 cm).mono ?_⟩;rintro e w2 ⟨MA,mc,rfl,hMO,hb2⟩;have hk2:=hk.out.trans (N4 (S:=T) hb2);have hj2:=HJ.out _ _ _ _ HJQ.out (N4 (S:=fun j=>O1 j∨True) hb2)
   have hR2:NestR k ps R W.heap.size O1 w2 t #[.slice MA M.length mc]:=⟨MA,mc,by rw[←HM.out],by
    rw[←HM.out]
    exact hMO.mono fun j _ hj=>⟨fun hj2=>by have:=(HO.out _ _ _ HJQ.out j hj2).1;omega,D5 hws.out hj⟩⟩
   obtain⟨fn,tmps,assign,body,hy,hR⟩:=HY.out _ _ _ _ _ hj2 HPX.out hR2;have HR:=J1 hR;have HK2:=J1 (J0 hk2 (D5 hws.out hb2.size));obtain⟨ml,hml'⟩:∃n,n=M.length:=⟨_,rfl⟩;rw[←hml']at hy ⊢;clear cm hcell hMO hb2 hk2 hj2 hR2 hR y1 y2 y3 y4 hml'
   gi_wp2_with fail
   refine(A1z HR.out).mono ?_
   rintro e w3 (⟨rfl,O3,hj3,hc3⟩ | ⟨rfl,O3,hj3,hc3⟩)
   ·have hk3:Hid (Keeps T W0 w3∧W.heap.size≤w3.heap.size):=J1 ⟨HK2.out.1.trans (hc3.keeps.mono fun j hj hj2=>(HO.out _ _ _ HJQ.out j hj2).2 hj),D5 HK2.out.2 hc3.keeps.size⟩;rw[←HTK.out]at hj3;clear hc3 hy;have hlt:=HLT.out
    gi_wp2_with fail
    go_roundw
    case rel=>exact⟨q+1,O3,by omega,by go_num,hj3,hk3⟩
    case measure=>simp[intOf];omega
   ·clear hc3 hy
    gi_wp2_with fail
    refine bodyPost_ret (results_none rfl _ _ _) rfl ?_;exact⟨⟨_,rfl⟩,.inr ⟨_,O3,HPX.out,hj3⟩⟩
  ·have i2:¬((q:Int)<(n:Int)):=by omega
   have ht:L.take q=L:=C7 (by have:=HN.out;omega)
   rw[ht]at hj;clear hlt ht
   gi_wp2_with fail
   go_end0
   exact⟨⟨_,rfl⟩,.inl ⟨O1,hj⟩⟩
attribute [local go_sem] Oper.semAt_some
theorem A1X (W:World) (D:Nat) (o:Obj) {B:Nat} (h:B≤D):Below B W (W.putObj D o) :=
 ⟨rfl,rfl,rfl,by simp,fun k hk=>World.putObj_heap_other (by omega)⟩
theorem A0n {F:Fence} {n:Nat} {P:Program} (w:World) {ops:Array Oper} {rest:List Oper} {o:Oper} {a:Act} {Q:Exit→Act→World→Prop} (hgd:o.guard=none) (s x:Operand) (t:TypeId)
  (ho:o.op=.call { callee:=.builtin .append,args:=#[s,x],argTypes:=#[t,t] }) (e:TypeId) (i:TypeInfo) (ht:P.underlying t=some (.slice e)) (hi:P.info? e=some i)
  (A B:Option Addr) (k cap c:Nat) (hs:a.eval s=.slice A k cap) (hx:a.eval x=.slice B 0 c) (hn:k≤cap) (h:wpListIn F n P ops Q rest (a.put o.dst (.slice A k cap)) w):wpListIn F n P ops Q (o::rest) a w:=by
 refine wpListIn_plain hgd fun K hK=>?_
 have hf:(Builtin.firstCells i.size 0 (.slice B 0 c)).run P w=.ok #[] w:=by
  cases B with
  | none=>exact run_firstCells_none w i.size 0 0 c
  | some ad=>exact run_firstCells_some (P:=P) w i.size 0 ad 0 c [] (by simp) (by simp)
 have hrun:(Builtin.append_ #[t,t] o.type #[.slice A k cap,.slice B 0 c]).run P w=.ok (.slice A k cap) w:=by
  cases A <;> simp[Builtin.append_,run_underlying ht,sizeOf,typeInfo,hi,Builtin.lenOf,hn,hf,storeCells]
 unfold Oper.wpIn;refine⟨?_,?_⟩
 ·simp[Oper.about,ho,resolve,Target.leads,Sem.run_pure]
 ·rw[Oper.semAt_plain F _ _ (by rw[ho];intro c hc';cases hc')]
  simp[execOp,ho,resolve,invoke,builtin,hs,hx,hrun,Result.andThen]
  exact hK _ _ h
structure JnI (w:World) (k:Int) (ps:List Pd) (R:List (List (List Vl))) (pre:List (List (List Vl))) (O:Nat→Prop) (W:World) (A:Option Addr) (m a:Nat) (us:List Value):Prop where
 own:∀j,O j↔j=w.heap.size∨(Value.slice A m a).ownBlock=some j
 box:Boxed W w.heap.size 29 (.slice A m a)
 row:TuRow (fun j=>w.heap.size+7≤j) (w.heap.size+5) W (.slice A m a) m us (Ns.join k ps pre R)
 cap:m≤a
 len:m≤pre.length*10001
 below:Below w w W
 size:w.heap.size+5≤W.heap.size
def JnS (w:World) (k:Int) (ps:List Pd) (R:List (List (List Vl))) (pre:List (List (List Vl))) (O:Nat→Prop) (W:World):Prop:=∃A m a us,JnI w k ps R pre O W A m a us
theorem JnI.keep {w:World} {k:Int} {ps:List Pd} {R pre:List (List (List Vl))} {O S:Nat→Prop} {W W':World} {A:Option Addr} {m a:Nat} {us:List Value} (h:JnI w k ps R pre O W A m a us) (hk:Keeps (fun j=>O j∨S j) W W') (hS:∀j,j<w.heap.size∨w.heap.size+7≤j→S j):JnI w k ps R pre O W' A m a us :=
 ⟨h.own,(hk.same _ h.box.lt (.inl ((h.own _).2 (.inl rfl)))).trans h.box,h.row.keep hk (fun j hj=>.inl ((h.own j).2 (.inr hj))) (fun j _ _ hj=>.inr (hS j (.inr hj))),h.cap,h.len,h.below.trans (hk.below (h.below.size) fun j hj=>.inr (hS j (.inl hj))),D5 h.size hk.size⟩
theorem JnI.step {w:World} {k:Int} {ps:List Pd} {R pre:List (List (List Vl))} {t:List (List Vl)} {O:Nat→Prop} {W W1:World} {A A':Option Addr} {m a m' a':Nat} {us us':List Value} (h:JnI w k ps R pre O W A m a us) (hg:W.grownBy W1 (Value.slice A m a).ownBlock)
  (hw:(Value.slice A' m' a').ownBlock=(Value.slice A m a).ownBlock∨∃g,(Value.slice A' m' a').ownBlock=some g∧W.heap.size≤g)
  (hrow:TuRow (fun j=>w.heap.size+7≤j) (w.heap.size+5) W1 (.slice A' m' a') m' us' (Ns.join k ps (pre++[t]) R)) (hc:m'≤a') (hl:m'≤(pre++[t]).length*10001) :
  (∃O',JnS w k ps R (pre++[t]) O' (W1.setCell ⟨w.heap.size,0,none⟩ (.slice A' m' a'))∧Chg O W O' (W1.setCell ⟨w.heap.size,0,none⟩ (.slice A' m' a'))):=by
 have hlt:=h.box.lt
 have hne:(Value.slice A m a).ownBlock≠some w.heap.size:=fun e=>by have:=(h.row.own.lt _ e).1;omega
 have hbx:Boxed W1 w.heap.size 29 (.slice A m a):=(hg.block _ hlt (fun e=>hne e.symm)).trans h.box;have hset:∀j,j≠w.heap.size→(W1.setCell ⟨w.heap.size,0,none⟩ (.slice A' m' a')).heap[j]?=W1.heap[j]?:=fun j hj=>Below.heap_setCell _ _ _ _ hj
 have hk1:Keeps (fun j=>j≠w.heap.size) W1 (W1.setCell ⟨w.heap.size,0,none⟩ (.slice A' m' a')):=⟨rfl,rfl,rfl,by simp,fun j _ hj=>hset j hj⟩
 refine⟨fun j=>j=w.heap.size∨(Value.slice A' m' a').ownBlock=some j,⟨A',m',a',us',fun _=>Iff.rfl,hbx.set _,hrow.keep hk1 (fun j hj e=>by have:=(hrow.own.lt j hj).1;omega) (fun j _ _ hj=>by omega),hc,hl,?_,D5 h.size (by simpa using hg.size)⟩,⟨⟨hg.os,hg.tape,hg.output,by simpa using hg.size,fun j hj hn=>?_⟩,fun j hj hO=>?_⟩⟩
 ·refine(h.below.trans ⟨hg.os,hg.tape,hg.output,hg.size,fun j hj=>hg.block j (by have:=h.below.size;omega) (fun e=>by have:=(h.row.own.lt _ e.symm).1;omega)⟩).setCell (C3 _) _
 ·have h1:j≠w.heap.size:=fun e=>hn ((h.own j).2 (.inl e));have h2:(Value.slice A m a).ownBlock≠some j:=fun e=>hn ((h.own j).2 (.inr e));exact(hset j h1).trans (hg.block j hj (fun e=>h2 e.symm))
 ·rcases hO with hO | hO
  ·exact(h.own j).2 (.inl hO)
  ·rcases hw with e | ⟨g,e,hge⟩
   ·exact(h.own j).2 (.inr (e ▸ hO))
   ·rw[e]at hO;cases hO;omega
def OwnTus (w:World) (ts:List (List (List Vl))) (E:Ending) (w':World):Prop :=
 ∃A a us,E=.returned (.slice A ts.length a)∧TuRow (fun j=>w.heap.size≤j) w.heap.size w' (.slice A ts.length a) ts.length us ts∧ts.length≤a∧Below w w w'
theorem A3m (k:Int) (d:Nat) (cv lv rv:Value) (ps:List Pd) (L R:List (List (List Vl))) (w:World) (hp:PsAt d w cv ps) (hsz:Pr.sizes ps≤1000) (hW:Want w) (hl:TusOn Al w lv L) (hr:TusOn Al w rv R)
  (hfl:Ns.Few 10000 100 L) (hfr:Ns.Few 10000 100 R) :
  Calls Tryz.prog 112 #[k,cv,lv,rv] w (OwnTus w (Ns.join k ps L R)):=by
 obtain⟨i0,hi,hz0,hz1,hz2⟩:=info_parts Tryz.infoTup13;obtain⟨P0,p0,rfl,_⟩:=hp.form;obtain⟨L0,c0,rfl,_⟩:=hl.form;obtain⟨R0,c1,rfl,_⟩:=hr.form;have ce:=fun W=>A6V k (.slice P0 ps.length p0) (.slice L0 L.length c0) (.slice R0 R.length c1) W ⟨_,_,_,rfl⟩ ⟨_,_,_,rfl⟩ ⟨_,_,_,rfl⟩;have HP:=J1 (J0 hp (J0 hl hr));have HF:=J1 (J0 hsz (J0 hW (J0 hfl hfr)));clear hp hl hr hsz hW hfl hfr;obtain⟨n,hn⟩:∃n,n=L.length:=⟨_,rfl⟩;obtain⟨rl,hrl⟩:∃n,n=R.length:=⟨_,rfl⟩;obtain⟨pl,hpl⟩:∃n,n=ps.length:=⟨_,rfl⟩;rw[←hn,←hpl,←hrl]at ce HP ⊢;have HN:=J1 (J0 hn (J0 hrl hpl));clear hn hrl hpl;refine(callsIn_wide (n:=9)).1 ?_;refine callsIn_of_wp_marks Tryz.func112 rfl trivial ?_ rfl;simp only[Tryz.ntmps112,List.size_toArray,G5,List.length_nil,Nat.reduceAdd,Nat.reduceSub,Array.replicate_succ,Array.replicate_zero,List.push_toArray,List.append_toArray,F1,G8]
 gi_wp2_with fail
 refine⟨trivial,(callsIn_wide.2 (ce _)).mono ?_⟩;rintro e w' ⟨rfl,rfl⟩;clear ce
 gi_wp2_with fail
 obtain⟨w5,hw5⟩:∃w5,(((((w.alloc (Obj.cells #[()] 29)).alloc (Obj.cells #[k] 3)).alloc (Obj.cells #[.slice P0 pl p0] 24)).alloc (Obj.cells #[.slice L0 n c0] 29)).alloc (Obj.cells #[.slice R0 rl c1] 29))=w5:=⟨_,rfl⟩;have hcells:=A8h (w.alloc (Obj.cells #[()] 29)) k (.slice P0 pl p0) (.slice L0 n c0) (.slice R0 rl c1);have hbox0:=(((((Boxed.new w 29 (.slice none 0 0)).alloc (Obj.cells #[k] 3)).alloc (Obj.cells #[.slice P0 pl p0] 24)).alloc (Obj.cells #[.slice L0 n c0] 29)).alloc (Obj.cells #[.slice R0 rl c1] 29))
 have hb5:Below w w w5:=by rw[←hw5];exact(((((Below.refl _ w).alloc (C3 _) _).alloc (by simp) _).alloc (by simp;omega) _).alloc (by simp;omega) _).alloc (by simp;omega) _
 have hs5:w5.heap.size=w.heap.size+5:=by rw[←hw5];simp
 rw[hw5]at hcells hbox0;rw[J2]at hcells;rw[hw5];obtain⟨T,hT⟩:∃T:Nat→Prop,T=fun j=>j<w5.heap.size∧j≠w.heap.size:=⟨_,rfl⟩
 have hTl:∀j,j<w.heap.size→T j:=fun j hj=>by rw[hT];exact⟨by omega,by omega⟩
 have hI0:JnI w k ps R [] (fun j=>j=w.heap.size) w5 none 0 0 []:=⟨fun j=>⟨fun h=>.inl h,fun h=>h.elim id fun h=>by cases h⟩,hbox0,⟨World.ownsRow_nil _ _ _ _,rfl,fun i t h=>by simp[Ns.join]at h⟩,C3 _,E3 _,hb5,by omega⟩
 have hsz:=HF.out.1;have hW:=HF.out.2.1;have hfl:=HF.out.2.2.1;have hfr:=HF.out.2.2.2
 have hit:=A5v 7 T w5 (fun j hj=>by rw[hT]at hj;exact hj.1) (w.heap.size+1) (w.heap.size+1+1) (w.heap.size+1+1+1) (w.heap.size+1+1+1+1) k d _ _ _ ps L R hcells (by rw[hT];exact⟨by omega,by omega⟩) (by rw[hT];exact⟨by omega,by omega⟩) (by rw[hT];exact⟨by omega,by omega⟩) (by rw[hT];exact⟨by omega,by omega⟩)
  ((HP.out.1.on (T:=fun j=>j<w.heap.size) (fun _ h=>h)).keep hb5.size fun j hj hlt=>⟨hb5.block j hlt,hTl j hj⟩) (((HP.out.2.1.mono (S:=fun j=>j<w.heap.size) fun _ h _=>h).below hb5 (C3 _)).mono fun j _ hj=>hTl j hj) (((HP.out.2.2.mono (S:=fun j=>j<w.heap.size) fun _ h _=>h).below hb5 (C3 _)).mono fun j _ hj=>hTl j hj)
  (fun W hk=>hW.below (hb5.trans (hk.below (by omega) hTl)) (C3 _)) hsz hfl hfr
 clear hcells hbox0 hw5
 refine A0o rfl (by omega) (gf:=152) (lb:=#[.pointer (some ⟨w.heap.size+1+1+1,0,none⟩),.pointer (some ⟨w.heap.size+1,0,none⟩),.pointer (some ⟨w.heap.size+1+1,0,none⟩),.pointer (some ⟨w.heap.size+1+1+1+1,0,none⟩)]) rfl trivial (enters_of Tryz.func152 (by kernel_rfl) rfl)
  hit ?hpre ?hC ?hps ?hR (JnS w k ps R) (fun _ _ _ _=>False) ?hI ?hIx ?hSD ?hIO (fun j=>j=w.heap.size) ?hO ⟨none,0,0,[],hI0⟩
  (fun _ _ _ v a'=>∃A c n',v=#[.slice A n' c]∧a'={ tmps:=#[k,.slice P0 pl p0,.slice L0 n c0,.slice R0 rl c1,undef,undef,undef,undef,(),.pointer (some ⟨w.heap.size,0,none⟩),.slice A n' c,k,.slice P0 pl p0,.slice L0 n c0,.slice R0 rl c1,.func (.func 152) #[] #[.pointer (some ⟨w.heap.size+1+1+1,0,none⟩),.pointer (some ⟨w.heap.size+1,0,none⟩),.pointer (some ⟨w.heap.size+1+1,0,none⟩),.pointer (some ⟨w.heap.size+1+1+1+1,0,none⟩)],.slice A n' c,undef,undef,undef,undef],defers:=[] })
  (fun _ _ _ _ _ _ _ h=>h) ?assign ?body ?done ?stop
 case hpre=>exact fun W3 hb=>N4 hb
 case hC=>intro j hj;rw[hT]at hj;exact hj.1
 case hps=>rintro B O W x vs ⟨A,c,rfl,_⟩;rfl
 case hR =>
  rintro O O' W W' x vs hOL hOO hk ⟨A,c,rfl,hx⟩;refine⟨A,c,rfl,(hx.keep hk fun j _ hj e=>?_).mono fun j _ hj=>⟨fun h=>hj.1 (hOO j h),hj.2⟩⟩;exact hj.1 (e ▸ hOL)
 case hI =>
  rintro pre O A B ⟨A',m,a,us,h⟩ hk
  exact⟨A',m,a,us,h.keep hk fun j hj=>⟨trivial,by omega,by omega⟩⟩
 case hIx=>intro c pre O A B h _;exact h
 case hSD=>intro j _;trivial
 case hIO =>
  rintro pre O W ⟨A',m,a,us,h⟩ j hj
  rcases(h.own j).1 hj with e | e
  ·exact⟨by rw[e];exact h.box.lt,fun hc=>by rw[hT]at hc;exact hc.2 e⟩
  ·exact⟨(h.row.own.lt j e).2,fun hc=>by rw[hT]at hc;have:=hc.1;have:=(h.row.own.lt j e).1;omega⟩
 case hO=>intro j hj;omega
 case assign =>
  rintro l2 x vs O W3 K _ _ ⟨A,c,rfl,_⟩ hK
  rw[show(#[16]:Array Tmp).zip #[Value.slice A (Mt.extend k ps x R).length c]=#[(16,Value.slice A (Mt.extend k ps x R).length c)] from by simp[List.zip_toArray]]
  generalize (Mt.extend k ps x R).length=ml at *
  gi_wp2
  exact hK _ _ (Keeps.refl _ _) ⟨A,c,ml,rfl,rfl⟩
 case body =>
  rintro l2 pre x vs O W3 a' hl2 ⟨A',m,a,us,h⟩ hpx ⟨MA,mc,hvs,hMO⟩ ⟨A2,c2,n2,hv2,rfl⟩;rw[hvs]at hv2
  obtain⟨rfl,rfl,rfl⟩:MA=A2∧(Mt.extend k ps x R).length=n2∧mc=c2:=by simpa using hv2
  have hlen:=hpx.length_le;rw[C6,List.length_singleton]at hlen;have hl100:=HF.out.2.2.1.len;have hr100:=HF.out.2.2.2.len;have hel:=Ns.extend_le k ps x R
  have hjn:Ns.join k ps (pre++[x]) R=Ns.join k ps pre R++Mt.extend k ps x R:=by rw[Ns.join_append,Ns.join_one]
  have hll:(pre++[x]).length=pre.length+1:=by simp
  obtain⟨M,hM⟩:∃M,M=Mt.extend k ps x R:=⟨_,rfl⟩;rw[←hM]at hMO hel hjn ⊢
  obtain⟨news,hn1,hn2,hn3,hn4,hn5⟩:=h.row.more hMO (fun j _ hj=>⟨fun e=>hj.1 ((h.own j).2 (.inr e)),by omega⟩)
  obtain⟨ml,hml⟩:∃ml,ml=M.length:=⟨_,rfl⟩;rw[←hml]at hn1 hn2 hn4 hn5 hel ⊢;have hc1:=h.box.cell;have hc2:=h.box.frozen;have HH:=J1 h;have HS3:=J1 h.size;have HN5:=J1 hn5;have HJN:=J1 hjn;have hmm:=h.len;have hcap:=h.cap
  have hm10:m≤100020000:=by omega
  have hml1:ml≤10001:=by omega
  have hfit:m+ml≤(pre++[x]).length*10001:=by omega
  have HFIT:=J1 hfit;clear hn5 hjn hll hvs hv2 hM hpx hlen hl100 hr100 hel hmm hfit h hml hMO hn2 hI0 hit hTl
  by_cases hz:ml=0
  ·subst hz;obtain rfl:news=[]:=D6 hn1
   have hst:=HH.out.step (t:=x) (A':=A') (m':=m) (a':=a) (us':=us) (W1:=W3) ⟨rfl,rfl,rfl,C3 _,fun _ _ _=>rfl⟩ (.inl rfl) (by
    have h5:=HN5.out _ W3 (by simpa using HH.out.row.own) ⟨rfl,rfl,rfl,C3 _,fun _ _ _=>rfl⟩ (.inl rfl)
    rw[←HJN.out,F3]at h5;exact h5) hcap HFIT.out
   have HST:=J1 hst;clear hst hn1 hn3 hn4
   gi_wp2_with (gi_at_builtin;refine A0n _ rfl _ _ 29 rfl 33 i0 Tryz.underlying29 hi A' MA m a mc rfl rfl hcap ?_)
   exact HST.out
  ·obtain⟨ad,rfl,hn6⟩:=hn4 (by omega)
   have HN6:=J1 hn6;have HN3:=J1 hn3
   have HN1:=J1 (show news.length=ml*1 by omega)
   clear hn1 hn3 hn4 hn6 hz
   gi_wp2_with (gi_at_builtin;refine A0r _ rfl _ _ 29 rfl (w.heap.size+5) 33 i0 (.slice none 0 0) 1 24 Tryz.underlying29 hi hz0 hz1 hz2 rfl (by decide) _ m us rfl HH.out.row.own ad ml mc news rfl HN1.out ?c1 ?c2 ?c3 ?c4 ?c5 ?_)
   case c1=>exact HN6.out
   case c2=>exact HN3.out
   case c3=>unfold maxLen;omega
   case c4=>omega
   case c5=>have:=HS3.out;omega
   intro v1 w6 hown6 hgrow hwhere
   obtain⟨A6,a6,rfl,ha6⟩:∃A6 a6,v1=.slice A6 (m+ml) a6∧m+ml≤a6:=by
    rcases hown6.2 with⟨rfl,h0⟩ | ⟨g,cap,cur,rfl,_,_,hnc,_⟩
    ·rw[h0];exact⟨none,0,rfl,C3 _⟩
    ·exact⟨_,cap,rfl,hnc⟩
   have hst:=HH.out.step (t:=x) hgrow hwhere (by rw[HJN.out];exact HN5.out _ w6 hown6 hgrow hwhere) ha6 HFIT.out
   have hbx:Boxed w6 w.heap.size 29 (.slice A' m a):=(hgrow.block _ HH.out.box.lt (fun e=>by have:=(HH.out.row.own.lt _ e.symm).1;omega)).trans HH.out.box
   have hd1:=hbx.cell;have hd2:=hbx.frozen;have HST:=J1 hst;clear hst hown6 hgrow hwhere hbx hc1 hc2
   gi_wp2_with fail
   exact HST.out
 case done =>
  rintro D O W3 hD ⟨A',m,a,us,h⟩ hOD hK;have hc1:=h.box.cell;have hlen:=h.row.len;have hcap:=h.cap
  have hfin:=J1 (show OwnTus w (Ns.join k ps L R) (.returned (.slice A' m a)) (W3.putObj D (.deferred none)) from by
   have h2:=h.row.keep (S:=fun j=>j≠D) (Keeps.putObj W3 D (.deferred none) fun h=>h rfl) (fun j hj e=>hOD ((h.own D).2 (.inr (e ▸ hj)))) (fun j _ _ hj e=>by omega)
   have h3:TuRow (fun j=>w.heap.size≤j) w.heap.size (W3.putObj D (.deferred none)) (.slice A' m a) m us (Ns.join k ps L R):=⟨h2.own.mono (by omega),h2.len,fun i t hi=>by
    obtain⟨u,h4,h5⟩:=h2.tup i t hi
    exact⟨u,h4,h5.mono fun j _ hj=>⟨hj.1,by omega⟩⟩⟩
   exact⟨A',a,us,by rw[hlen],by rw[hlen];exact h3,by rw[hlen];exact hcap,h.below.trans (A1X W3 D (.deferred none) (show w.heap.size≤D by omega))⟩)
  clear h
  gi_wp2
  refine⟨by simp,.inl ⟨_,_,rfl,run_takeDeferred hK,?_⟩⟩
  exact⟨_,results_tmp (t:=8) rfl _ _ _,hfin.out⟩
 case stop=>rintro D c pre O W3 hD hpx h;exact h.elim
end Go.Proofs.YtbddhkgbpjhhaaaGreatDoor
