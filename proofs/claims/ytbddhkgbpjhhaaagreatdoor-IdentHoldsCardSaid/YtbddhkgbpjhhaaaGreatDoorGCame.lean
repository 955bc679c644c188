/-
  LAID TOGETHER, BY PROGRAM, of: Post, RwsCame, PdCame, PdsCame, Laidv, WantLaid.
-/
import Derived.Test.YtbddhkgbpjhhaaaGreatDoorGBase
import Derived.Test.YtbddhkgbpjhhaaaGreatDoorRows
import Derived.Test.YtbddhkgbpjhhaaaGreatDoorGLogs
import Derived.Test.YtbddhkgbpjhhaaaGreatDoorGPred
import Derived.Test.YtbddhkgbpjhhaaaGreatDoorGOwn
import Derived.Below
import Derived.ChangeSame
import Derived.ProofKit
import Derived.Carry
import Derived.OpenShut
import Derived.Deep.SlicePairs
import Derived.Deep.Fields
import Derived.Lib.SmallJoins
import Derived.Lib.LaidTab
import Derived.ChangeArms
import Derived.WalkKit
namespace Go.Proofs.YtbddhkgbpjhhaaaGreatDoor
open Go.RowKit Go.WideShapes Go.ChangeShapes
theorem A0U {H:Type} {enc:TypeId × Value→H} {P:Program} {A B:World} (laid:laidOutB P=true) (kept:Below A A B) :
  ∀(ts:List TypeId) {vs:List Value} {ds:List (DataW H)} {ps:List MemPlace},(ts.all fun t=>P.readableRec t&&decide (t<P.types.size))=true →
   DataW.TrodAll enc P A 0 (fun _=>true) true ts vs ds ps→(∀x∈ps,x.block<A.heap.size)→DataW.TrodAll enc P B 0 (fun b=>decide (b<A.heap.size)) true ts vs ds ps
 | [],_,_,_,_,h,_=>by
  obtain⟨rfl,rfl,rfl⟩:=trodAll_nil h;exact trodAll_mk0
 | t::ts,_,_,_,hr,h,hlt=>by
  obtain⟨v,vs,d,ds,p,q,rfl,rfl,rfl,h0,h1⟩:=trodAll_cons h;simp only[List.all_cons,E7]at hr;exact trodAll_cons_mk (Below.trod laid hr.1.1 (of_decide_eq_true hr.1.2) h0 kept (fun x hx=>hlt x (G3.2 (.inl hx))))
   (A0U laid kept ts (by simpa using hr.2) h1 (fun x hx=>hlt x (G3.2 (.inr hx))))
theorem A8r {H:Type} {enc:TypeId × Value→H} {P:Program} {fn:Func} {sp:ChangeSpec} {ap:Bool} {A B:World} {xs:Array Value} {ds gs:List (DataW H)} {was p:List MemPlace} {tb:TypeId}
  (laid:laidOutB P=true) (hr:(fn.params.toList.all fun t=>P.readableRec t&&decide (t<P.types.size))=true)
  (whole:DataW.Whole enc P fn.params.toList sp.vars ap A xs.toList ds gs was) (args:DataW.TrodAll enc P A 0 (fun _=>true) true fn.params.toList xs.toList ds p) (hp:was=p) (kept:Below A A B)
  (ht:fn.resultTypes=#[tb]) (hb:P.underlying tb=some .bool) (h1:(sp.fn H (ds++gs)).results=[.lit (.bool true)]) (h2:(sp.fn H (ds++gs)).args=ds) (h3:sp.vars=[]) (h4:(sp.fn H (ds++gs)).vars=[]) :
  sp.post enc P fn ap true false false A xs (.bool true) B:=by
 have below:∀x,x∈p→x.block<A.heap.size:=fun x h=>whole.lt x (hp ▸ h)
 refine⟨ds,gs,was,[],p,[],whole,?_,?_,?_,World.keptBut_mono (fun x h=>⟨h,.inr (.inl (hp ▸ h))⟩) (kept.frame (·∈was)),fun h=>by cases h⟩
 ·rw[h1,ht];exact trodAll_cons_mk (shut_bool hb true) trodAll_mk0
 ·rw[h2];exact A0U laid kept _ hr args below
 ·rw[h3,h4];exact rfl
set_option maxRecDepth 100000
open Go.RowKit Go.WideShapes Go.ChangeShapes Go.Deep
section
variable {H:Type} {enc:TypeId × Value→H} {W:World}
theorem N3 {P:Program} {sp:Nat→Bool} {fs:Array Field} {cs:List Value} {ys:List (DataW H × List MemPlace)} {n:Nat} (hg:∀(i:Nat) (f:Field),fs[i]?=some f→DataW.trod enc P W 0 sp true n f.type ((cs.drop f.offset).take (P.cellsOf f.type))=ys[i]?)
  (i:Nat) (T:TypeId) (o c:Nat) (hf:(fs[i]?).map (fun f=>(f.type,f.offset))=some (T,o)) (hc:P.cellsOf T=c) (hl:ys.length=fs.size):∃y,ys[i]?=some y∧DataW.trod enc P W 0 sp true n T ((cs.drop o).take c)=some y:=by
 obtain⟨f,hfi,he⟩:=Option.map_eq_some_iff.1 hf;simp only[Prod.mk.injEq]at he;obtain⟨rfl,rfl⟩:=he
 have hi:i<ys.length:=by rw[hl];exact(D9.1 hfi).1
 have:=hg i f hfi;rw[hc,A8 hi]at this;exact⟨_,A8 hi,this⟩
end
set_option maxRecDepth 100000
theorem A1K {α:Type} {Q:Nat→α→Prop}:∀n:Nat,(∀i,i<n→∃x,Q i x)→∃l:List α,l.length=n∧∀(i:Nat) (x:α),l[i]?=some x→Q i x
 | 0,_=>⟨[],rfl,fun i x h=>by simp at h⟩
 | n+1,h=>by
  obtain⟨l,hl,hq⟩:=A1K n (fun i hi=>h i (by omega))
  obtain⟨x,hx⟩:=h n (by omega)
  refine⟨l++[x],by simp[hl],fun i y hy=>?_⟩
  by_cases e:i<n
  ·rw[F2 (by omega)]at hy;exact hq i y hy
  ·have hi:i=n:=by
    by_cases e2:i=n
    ·exact e2
    ·rw[E6 (by simp;omega)]at hy;cases hy
   subst hi
   rw[E8 (by omega),hl,Nat.sub_self]at hy
   simp at hy
   rw[←hy];exact hx
section
variable {H:Type} {enc:TypeId × Value→H} {W:World}
theorem A10 {n:Nat} {cs:List Value} {y:DataW H × List MemPlace} (h:DataW.trod enc Tryz.prog W 0 (fun _=>true) true n 55 cs=some y) :
  ∃x:Tm,cs=[.int .i64 x.k,.int .i64 x.t,.int .i64 x.c,.bool x.z,.int .i64 x.n]:=by
 obtain⟨xs,m,_,_,hl,hlen,hg⟩:=DataW.trod_struct Tryz.underlying55 h
 match cs,hl.trans (show Tryz.prog.cellsOf 55=5 by kernel_rfl)with
 | [c0,c1,c2,c3,c4],_ =>
  obtain⟨_,_,g0⟩:=N3 hg 0 3 0 1 rfl (by kernel_rfl) hlen
  obtain⟨_,_,g1⟩:=N3 hg 1 3 1 1 rfl (by kernel_rfl) hlen
  obtain⟨_,_,g2⟩:=N3 hg 2 3 2 1 rfl (by kernel_rfl) hlen
  obtain⟨_,_,g3⟩:=N3 hg 3 53 3 2 rfl (by kernel_rfl) hlen
  obtain⟨k,hk,_,_⟩:=DataW.trod_int Tryz.underlying3 g0;obtain⟨t,ht,_,_⟩:=DataW.trod_int Tryz.underlying3 g1;obtain⟨c,hc,_,_⟩:=DataW.trod_int Tryz.underlying3 g2;obtain⟨zs,m,_,_,_,hlen2,hq⟩:=DataW.trod_struct Tryz.underlying53 g3
  obtain⟨_,_,q0⟩:=N3 hq 0 4 0 1 rfl (by kernel_rfl) hlen2
  obtain⟨_,_,q1⟩:=N3 hq 1 2 1 1 rfl (by kernel_rfl) hlen2
  obtain⟨z,hz,_⟩:=DataW.trod_bool Tryz.underlying4 q0;obtain⟨i,hi,_,_⟩:=DataW.trod_int Tryz.underlying2 q1
  simp at hk ht hc hz hi
  exact⟨⟨k,t,c,z,i⟩,by rw[hk,ht,hc,hz,hi]⟩
theorem A5n {n:Nat} {cs:List Value} {y:DataW H × List MemPlace} (h:DataW.trod enc Tryz.prog W 0 (fun _=>true) true n 57 cs=some y) :
  ∃(f:Pf) (u:Value) (m:Nat) (z:DataW H × List MemPlace),cs=f.cells u∧m<n∧DataW.trod enc Tryz.prog W 0 (fun _=>true) true m 24 [u]=some z:=by
 obtain⟨xs,m,hm,_,hl,hlen,hg⟩:=DataW.trod_struct Tryz.underlying57 h
 match cs,hl.trans (show Tryz.prog.cellsOf 57=14 by kernel_rfl)with
 | [c0,c1,c2,c3,c4,c5,c6,c7,c8,c9,c10,c11,c12,c13],_ =>
  obtain⟨_,_,g0⟩:=N3 hg 0 3 0 1 rfl (by kernel_rfl) hlen
  obtain⟨_,_,g1⟩:=N3 hg 1 3 1 1 rfl (by kernel_rfl) hlen
  obtain⟨_,_,g2⟩:=N3 hg 2 3 2 1 rfl (by kernel_rfl) hlen
  obtain⟨_,_,g3⟩:=N3 hg 3 55 3 5 rfl (by kernel_rfl) hlen
  obtain⟨_,_,g4⟩:=N3 hg 4 55 8 5 rfl (by kernel_rfl) hlen
  obtain⟨z,_,g5⟩:=N3 hg 5 24 13 1 rfl (by kernel_rfl) hlen
  obtain⟨k,hk,_,_⟩:=DataW.trod_int Tryz.underlying3 g0;obtain⟨u,hu,_,_⟩:=DataW.trod_int Tryz.underlying3 g1;obtain⟨o,ho,_,_⟩:=DataW.trod_int Tryz.underlying3 g2;obtain⟨a,ha⟩:=A10 g3;obtain⟨b,hb⟩:=A10 g4
  simp at hk hu ho ha hb
  obtain⟨a0,a1,a2,a3,a4⟩:=ha;obtain⟨b0,b1,b2,b3,b4⟩:=hb
  exact⟨⟨k,u,o,a,b⟩,c13,m,z,by simp[Pf.cells,hk,hu,ho,a0,a1,a2,a3,a4,b0,b1,b2,b3,b4],by omega,g5⟩
theorem A2b (n:Nat):∀(v:Value) (y:DataW H × List MemPlace),DataW.trod enc Tryz.prog W 0 (fun _=>true) true n 24 [v]=some y→∃d ps,PsAt d W v ps:=by
 induction n using Nat.strongRecOn with
 | ind n ih =>
 intro v y h
 rcases DataW.trod_slice Tryz.underlying24 h with⟨hv,_⟩ | ⟨a,len,cap,elems,rest,m,hm,hv,_,_,hl,hcap,hlen,hel,_,_⟩
 ·obtain rfl:v=.slice none 0 0:=by simpa using hv
  exact⟨0,[],rfl,none,0,rfl⟩
 ·obtain rfl:v=.slice (some a) len cap:=by simpa using hv
  rw[show Tryz.prog.cellsOf 57=14 by kernel_rfl]at hel
  have each:∀i,i<len→∃d,∃(p:Pd) (u:Value),PdCell W (a.add (i*14)) p.f u∧PsAt d W u p.ps:=by
   intro i hi;have h1:=hel i hi
   rw[A8 (by omega)]at h1
   obtain⟨cs',h2,h3⟩:=Option.bind_eq_some_iff.1 h1;obtain⟨f,u,k,z,rfl,hk,h4⟩:=A5n h3
   obtain⟨d,ps,hps⟩:=ih k (by omega) u z h4
   obtain⟨_,_,hc⟩:=World.cells?_some h2
   have hx:∀j,0<j→(a.add (i*14)).add j=⟨(a.add (i*14)).block,(a.add (i*14)).off+j,none⟩:=fun j hj=>by
    generalize a.add (i*14)=X;unfold Addr.add
    rw[if_neg (by omega)]
   have h0:=hc 0 (by decide)
   have e0:(a.add (i*14)).add 0=a.add (i*14):=by unfold Addr.add;simp
   rw[e0]at h0
   have g:=fun j (hj:0<j) (hj2:j<14)=>by have:=hc j hj2;rwa[hx j hj]at this
   exact⟨d,.mk f ps,u,⟨h0,g 1 (by decide) (by decide),g 2 (by decide) (by decide),g 3 (by decide) (by decide),g 4 (by decide) (by decide),g 5 (by decide) (by decide),g 6 (by decide) (by decide),g 7 (by decide) (by decide),g 8 (by decide) (by decide),g 9 (by decide) (by decide),g 10 (by decide) (by decide),g 11 (by decide) (by decide),g 12 (by decide) (by decide),g 13 (by decide) (by decide)⟩,hps⟩
  obtain⟨D,hD⟩:=fuel_lt (q:=fun i d=>∃(p:Pd) (u:Value),PdCell W (a.add (i*14)) p.f u∧PsAt d W u p.ps) (fun i x z hxz ⟨p,u,hp,hu⟩=>⟨p,u,hp,hu.mono hxz⟩) each;obtain⟨ps,hpl,hps⟩:=A1K (α:=Pd) (Q:=fun(i:Nat) (p:Pd)=>∃u,PdCell W (a.add (i*14)) p.f u∧PsAt D W u p.ps) len hD
  refine⟨D+1,ps,some a,cap,by rw[hpl],by unfold maxLen at hcap;omega,fun j p hj=>?_⟩
  obtain⟨u,hp,hu⟩:=hps j p hj;obtain⟨b,o,s⟩:=a;refine⟨b,o,s,u,rfl,?_,hp,hu⟩;have:=block_lt_of_cell hp.c0
  rwa[L7]at this
end
set_option maxRecDepth 100000
section
variable {H:Type} {enc:TypeId × Value→H} {W:World}
end
open Go.RowKit
theorem A1L {P:Program} {W:World}:∀{l:List (String × DataW Unit)} {ps:List MemPlace},DataW.LaidVars P W l ps→∀{n:String} {d:DataW Unit},(n,d)∈l →
  ∃g t cs fuel p,P.globalNamed n=some g∧(P.globals[g]?).map (·.type)=some t∧W.var? P n=some cs∧DataW.trod (fun _=>()) P W 0 (fun _=>true) false fuel t cs.toList=some (d,p)
 | [],_,_,_,_,hm=>by cases hm
 | (n',d')::r,ps,h,n,d,hm=>by
  obtain⟨g,t,cs,fuel,p,q,h1,h2,h3,h4,h5,_⟩:=h
  rcases List.mem_cons.1 hm with he | hm
  ·obtain⟨rfl,rfl⟩:=Prod.mk.inj he;exact⟨g,t,cs,fuel,p,h1,h2,h3,h4⟩
  ·exact A1L h5 hm
theorem A2M {P:Program} {W:World} {l:List (String × DataW Unit)} (h:laidMet P l W) {n:String} {d:DataW Unit} (hm:(n,d)∈l) :
  ∃g t cs fuel p,P.globalNamed n=some g∧(P.globals[g]?).map (·.type)=some t∧W.var? P n=some cs∧DataW.trod (fun _=>()) P W 0 (fun _=>true) false fuel t cs.toList=some (d,p):=by
 obtain⟨ps,h,_⟩:=h;exact A1L h hm
section
variable {H:Type} {enc:TypeId × Value→H} {P:Program} {w:World} {base:Nat} {sp:Nat→Bool} {fuel:Nat} {t e:TypeId} {cs:List Value} {p:List MemPlace}
theorem A40 {n c:Nat} {held:Bool} {parts:List (DataW H)} (ht:P.underlying t=some (.array n e)) (hce:P.cellsOf e=c) (h:DataW.trod enc P w base sp held fuel t cs=some (.agg parts,p)) (i:Nat) (hi:i<n) :
  ∃fuel' x,DataW.trod enc P w base sp held fuel' e ((cs.drop (i*c)).take c)=some x∧parts[i]?=some x.1:=by
 cases fuel with
 | zero=>simp[DataW.trod]at h
 | succ fuel =>
  simp only[DataW.trod,ht,hce]at h
  split at h
  ·obtain⟨xs,hm,hx⟩:=Option.map_eq_some_iff.1 h
   obtain⟨b,hb,hf⟩:=Lib.mapM_at hm i i (by simp[hi])
   refine⟨fuel,b,hf,?_⟩
   have:parts=xs.map (·.1):=by
    have:=congrArg Prod.fst hx
    simpa using this.symm
   rw[this];simp[hb]
  ·cases h
end
theorem gWants:Tryz.prog.globalNamed "watersmeet/value.wants"=some 2:=by kernel_rfl
theorem gWantsType:(Tryz.prog.globals[2]?).map (·.type)=some 232:=by kernel_rfl
theorem A9w:Tryz.prog.cellsOf 164=3:=by kernel_rfl
theorem cellsB:Tryz.prog.cellsOf 4=1:=by kernel_rfl
def wantsData:List (DataW Unit):=(List.range 7).map fun q=>.agg ((List.range 3).map fun p=>.lit (.bool (Va.want q p)))
theorem A86 {W:World} {l:List (String × DataW Unit)} (h:laidMet Tryz.prog l W) (m3:("watersmeet/value.wants",.agg wantsData)∈l):Want W:=by
 obtain⟨g,t,cs,fuel,p0,h1,h2,h3,h4⟩:=A2M h m3;obtain rfl:=F0 (gWants.symm.trans h1);obtain rfl:=F0 (gWantsType.symm.trans h2);intro q p hq hp;obtain⟨f1,x1,h5,h6⟩:=A40 Tryz.underlying232 A9w h4 q hq
 have e1:x1.1=.agg ((List.range 3).map fun p=>.lit (.bool (Va.want q p))):=by
  have:wantsData[q]?=some (.agg ((List.range 3).map fun p=>.lit (.bool (Va.want q p)))):=by simp[wantsData,hq]
  exact F0 (h6.symm.trans this)
 obtain⟨d1,p1⟩:=x1;simp only at e1;subst e1;obtain⟨f2,x2,h7,h8⟩:=A40 Tryz.underlying164 cellsB h5 p hp;obtain⟨b,hb,rfl⟩:=DataW.trod_bool Tryz.underlying4 h7
 have e2:b=Va.want q p:=by
  have h9:(List.map (fun p=>(DataW.lit (Lit.bool (Va.want q p)):DataW Unit)) (List.range 3))[p]?=some (.lit (.bool (Va.want q p))):=by simp[hp]
  have:=F0 (h8.symm.trans h9)
  simpa using this
 rw[World.var?_cell h1 h3];have h10:=congrArg (·[0]?) hb;simp only[Nat.mul_one,List.getElem?_take,List.getElem?_drop]at h10;simp only[Nat.lt_one_iff,if_true,Nat.add_zero,List.getElem?_cons_zero]at h10
 rw[if_pos (by omega)]at h10
 rw[←e2]
 simpa using h10
end Go.Proofs.YtbddhkgbpjhhaaaGreatDoor
