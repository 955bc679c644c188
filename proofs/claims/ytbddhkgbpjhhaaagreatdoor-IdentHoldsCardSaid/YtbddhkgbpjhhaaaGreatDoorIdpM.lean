/-
  NODES IN MEMORY: a tree with its tables and its kids' nodes, seven cells each; rows of nodes; what a change tells of a node.
-/
import Derived.Test.YtbddhkgbpjhhaaaGreatDoorGPl2
import Derived.Test.YtbddhkgbpjhhaaaGreatDoorGTreeB
import Derived.Test.YtbddhkgbpjhhaaaGreatDoorGMtB
namespace Go.Proofs.YtbddhkgbpjhhaaaGreatDoor
open Go.RowKit
structure Nd where
 a:Tr
 uA:Option Addr
 uN:Nat
 uC:Nat
 pA:Option Addr
 pN:Nat
 pC:Nat
 n:Nat
 xA:Option Addr
 xN:Nat
 xC:Nat
namespace Nd
def u (z:Nd):Value:=.slice z.uA z.uN z.uC
def p (z:Nd):Value:=.slice z.pA z.pN z.pC
def x (z:Nd):Value:=.slice z.xA z.xN z.xC
def cells (z:Nd):List Value:=[z.a.k,z.a.t,.slice z.uA z.uN z.uC,.slice z.pA z.pN z.pC,z.a.h,.int .u64 (z.n:Int),.slice z.xA z.xN z.xC]
def zero:Nd:=⟨Id.zero,none,0,0,none,0,0,0,none,0,0⟩
theorem cells_length (z:Nd):z.cells.length=7:=rfl
theorem A0K (z:Nd):∀u∈z.cells,u.oneCell'=true:=by
 intro u hu
 simp[cells]at hu
 rcases hu with rfl | rfl | rfl | rfl | rfl | rfl | rfl <;> rfl
end Nd
abbrev c35 (a b e f g:Nd):List Value:=(.int .i64 a.a.k::.int .i64 a.a.t::.slice a.uA a.uN a.uC::.slice a.pA a.pN a.pC::.bool a.a.h::.int .u64 (a.n:Int)::.slice a.xA a.xN a.xC::.int .i64 b.a.k::.int .i64 b.a.t::.slice b.uA b.uN b.uC::.slice b.pA b.pN b.pC::.bool b.a.h::.int .u64 (b.n:Int)::.slice b.xA b.xN b.xC::.int .i64 e.a.k::.int .i64 e.a.t::.slice e.uA e.uN e.uC::.slice e.pA e.pN e.pC::.bool e.a.h::.int .u64 (e.n:Int)::.slice e.xA e.xN e.xC::.int .i64 f.a.k::.int .i64 f.a.t::.slice f.uA f.uN f.uC::.slice f.pA f.pN f.pC::.bool f.a.h::.int .u64 (f.n:Int)::.slice f.xA f.xN f.xC::.int .i64 g.a.k::.int .i64 g.a.t::.slice g.uA g.uN g.uC::.slice g.pA g.pN g.pC::.bool g.a.h::.int .u64 (g.n:Int)::.slice g.xA g.xN g.xC::[])
abbrev z35:List Value:=(z9::z9::()::()::false::.int .u64 0::()::z9::z9::()::()::false::.int .u64 0::()::z9::z9::()::()::false::.int .u64 0::()::z9::z9::()::()::false::.int .u64 0::()::z9::z9::()::()::false::.int .u64 0::()::[])
structure NdCell (w:World) (X:Addr) (z:Nd):Prop where
 c0:w.cell? X=some (.int .i64 z.a.k)
 c1:w.cell? ⟨X.block,X.off+1,none⟩=some (.int .i64 z.a.t)
 c2:w.cell? ⟨X.block,X.off+2,none⟩=some (.slice z.uA z.uN z.uC)
 c3:w.cell? ⟨X.block,X.off+3,none⟩=some (.slice z.pA z.pN z.pC)
 c4:w.cell? ⟨X.block,X.off+4,none⟩=some (.bool z.a.h)
 c5:w.cell? ⟨X.block,X.off+5,none⟩=some (.int .u64 (z.n:Int))
 c6:w.cell? ⟨X.block,X.off+6,none⟩=some (.slice z.xA z.xN z.xC)
theorem NdCell.at_block {w w':World} {X:Addr} {z:Nd} (h:NdCell w X z) (hb:w'.heap[X.block]?=w.heap[X.block]?):NdCell w' X z :=
 have k:∀n,w'.cell? ⟨X.block,n,none⟩=w.cell? ⟨X.block,n,none⟩:=fun n=>World.cell?_of_block (a:=⟨X.block,n,none⟩) hb
 ⟨(World.cell?_of_block hb).trans h.c0,(k _).trans h.c1,(k _).trans h.c2,(k _).trans h.c3,(k _).trans h.c4,(k _).trans h.c5,(k _).trans h.c6⟩
theorem Lies.nd {w:World} {g:Nat} {T:TypeId} {z:Nd} (h:Lies w g T z.cells):NdCell w ⟨g,0,none⟩ z :=
 ⟨h.c 0 rfl,h.c 1 rfl,h.c 2 rfl,h.c 3 rfl,h.c 4 rfl,h.c 5 rfl,h.c 6 rfl⟩
def NksOn (T:Nat→Prop):Nat→World→Value→List Tr→Prop
 | 0,_,v,l=>l=[]∧∃A c,v=.slice A 0 c
 | d+1,w,v,l=>∃A c,v=.slice A l.length c∧(l.length≤9223372036854775807∧l.length≤c)∧∀(j:Nat) (a:Tr),l[j]?=some a→∃b o s z,A=some ⟨b,o,s⟩∧T b∧b<w.heap.size∧NdCell w ((⟨b,o,s⟩:Addr).add (j*7)) z∧z.a=a∧z.n=Tr.tables a∧TrOn T w (a,z.u,z.p)∧NksOn T d w z.x a.ks
theorem NksOn.form {T:Nat→Prop} {d:Nat} {w:World} {v:Value} {l:List Tr} (h:NksOn T d w v l):∃A c,v=.slice A l.length c∧l.length≤9223372036854775807:=by
 cases d with
 | zero=>obtain⟨rfl,A,c,rfl⟩:=h;exact⟨A,c,rfl,by simp⟩
 | succ d=>obtain⟨A,c,rfl,hl,_⟩:=h;exact⟨A,c,rfl,hl.1⟩
theorem NksOn.keep {T T':Nat→Prop} {d:Nat} {w w':World} (hs:w.heap.size≤w'.heap.size) (hb:∀k,T k→k<w.heap.size→w'.heap[k]?=w.heap[k]?∧T' k):∀{v:Value} {l:List Tr},NksOn T d w v l→NksOn T' d w' v l:=by
 induction d with
 | zero=>intro v l h;exact h
 | succ d ih =>
  intro v l h;obtain⟨A,c,hv,hc,hx⟩:=h;refine⟨A,c,hv,hc,fun j a hj=>?_⟩;obtain⟨b,o,s,z,hA,ht,hlt,hcell,h1,h2,h3,hk⟩:=hx j a hj;obtain⟨e1,e2⟩:=hb b ht hlt
  exact⟨b,o,s,z,hA,e2,C9 hlt hs,hcell.at_block (by rw[L7];exact e1),h1,h2,h3.keep hs hb,ih hk⟩
theorem NksOn.more {T:Nat→Prop} {d:Nat}:∀{w:World} {v:Value} {l:List Tr},NksOn T d w v l→NksOn T (d+1) w v l:=by
 induction d with
 | zero =>
  intro w v l h;obtain⟨rfl,A,c,rfl⟩:=h
  exact⟨A,c,rfl,by simp,fun j a hj=>by simp at hj⟩
 | succ d ih =>
  intro w v l h;obtain⟨A,c,hv,hc,hx⟩:=h;refine⟨A,c,hv,hc,fun j a hj=>?_⟩;obtain⟨b,o,s,z,hA,ht,hlt,hcell,h1,h2,h3,hk⟩:=hx j a hj;exact⟨b,o,s,z,hA,ht,hlt,hcell,h1,h2,h3,ih hk⟩
theorem NksOn.mono {T:Nat→Prop} {d e:Nat} {w:World} {v:Value} {l:List Tr} (h:NksOn T d w v l) (hd:d≤e):NksOn T e w v l:=by
 induction hd with
 | refl=>exact h
 | step _ ih=>exact ih.more
structure TNd (T:Nat→Prop) (w:World) (z:Nd):Prop where
 n:z.n=Tr.tables z.a
 tr:TrOn T w (z.a,z.u,z.p)
 ks:∃d,NksOn T d w z.x z.a.ks
theorem TNd.keep {T T':Nat→Prop} {w w':World} {z:Nd} (h:TNd T w z) (hs:w.heap.size≤w'.heap.size) (hb:∀k,T k→k<w.heap.size→w'.heap[k]?=w.heap[k]?∧T' k):TNd T' w' z :=
 ⟨h.n,h.tr.keep hs hb,h.ks.elim fun d h=>⟨d,h.keep hs hb⟩⟩
theorem TNd.below {T:Nat→Prop} {w w':World} {z:Nd} (h:TNd T w z) (hb:Below w w w'):TNd T w' z:=h.keep hb.size fun k hk hlt=>⟨hb.block k hlt,hk⟩
theorem TNd.mono {T T':Nat→Prop} {w:World} {z:Nd} (h:TNd T w z) (ht:∀k,T k→k<w.heap.size→T' k):TNd T' w z:=h.keep (C3 _) fun k hk hlt=>⟨rfl,ht k hk hlt⟩
theorem TNd.uN {T:Nat→Prop} {w:World} {z:Nd} (h:TNd T w z):z.uN=z.a.ks.length:=by
 obtain⟨A,c,e,_⟩:=h.tr.1.elim fun d h=>h.at_.form;change Value.slice z.uA z.uN z.uC=.slice A z.a.ks.length c at e
 injection e
theorem TNd.xN {T:Nat→Prop} {w:World} {z:Nd} (h:TNd T w z):z.xN=z.a.ks.length:=by
 obtain⟨A,c,e,_⟩:=h.ks.elim fun d h=>h.form;change Value.slice z.xA z.xN z.xC=.slice A z.a.ks.length c at e
 injection e
theorem TNd.lt {T:Nat→Prop} {w:World} {z:Nd} (h:TNd T w z):z.n<18446744073709551616:=by
 rw[h.n];exact St.ofN_lt _
theorem TNd.kid {T:Nat→Prop} {w:World} {z:Nd} (h:TNd T w z) {j:Nat} {b:Tr} (hj:z.a.ks[j]?=some b) :
  ∃g o s y,z.xA=some ⟨g,o,s⟩∧T g∧g<w.heap.size∧y.a=b∧NdCell w ((⟨g,o,s⟩:Addr).add (j*7)) y∧TNd T w y:=by
 obtain⟨d,hk⟩:=h.ks
 cases d with
 | zero=>obtain⟨e,_⟩:=hk;rw[e]at hj;simp at hj
 | succ d =>
  obtain⟨A,c,hv,_,hx⟩:=hk;obtain⟨g,o,s,y,hA,ht,hlt,hcell,h1,h2,h3,h4⟩:=hx j b hj;change Value.slice z.xA z.xN z.xC=.slice A z.a.ks.length c at hv
  have hxA:z.xA=A:=by injection hv
  subst h1;exact⟨g,o,s,y,hxA.trans hA,ht,hlt,rfl,hcell,h2,h3,⟨d,h4⟩⟩
theorem TNd.zero_u (T:Nat→Prop) (w:World):TrOn T w (Id.zero,(),.slice none 0 0):=⟨⟨0,rfl,none,0,rfl⟩,0,rfl,none,0,rfl⟩
theorem A3T {xs cs:List Value} (hl:xs.length=cs.length):setMany cs 0 xs=xs:=by
 refine List.ext_getElem? fun i=>?_
 by_cases h:i<xs.length
 ·have:=A0O xs cs 0 i h (by omega)
  rwa[G6]at this
 ·rw[E6 (by rw[A0p];omega),E6 (by omega)]
theorem Lies.put_all {W:World} {g:Nat} {T:TypeId} {cs xs:List Value} (h:Lies W g T cs) (hl:xs.length=cs.length):Lies (setCells W g 0 xs) g T xs:=by
 have:=h.sets xs 0
 rwa[A3T hl]at this
def ndCells (l:List Nd):List Value:=l.flatMap Nd.cells
theorem A30 (l m:List Nd):ndCells (l++m)=ndCells l++ndCells m:=by simp[ndCells]
theorem A1I:∀{L:List Nd} {j i:Nat} {z:Nd},L[j]?=some z→i<7→(ndCells L)[j*7+i]?=z.cells[i]?
 | [],j,i,z,h,_=>by simp at h
 | x::r,0,i,z,h,hi=>by
  simp at h;subst h
  show(x.cells++ndCells r)[0*7+i]?=_
  rw[Nat.zero_mul,G6,F2 (by rw[Nd.cells_length];exact hi)]
 | x::r,j+1,i,z,h,hi=>by
  show(x.cells++ndCells r)[(j+1)*7+i]?=_
  rw[E8 (by rw[Nd.cells_length];omega),Nd.cells_length,show(j+1)*7+i-7=j*7+i by omega]
  exact A1I (L:=r) (by simpa using h) hi
theorem A8S (g o i:Nat):(⟨g,o,none⟩:Addr).add i=⟨g,o+i,none⟩:=by
 unfold Addr.add
 split
 ·next h=>subst h;rfl
 ·rfl
theorem A8k {w:World} {X:Addr} {z:Nd} (h:∀i u,z.cells[i]?=some u→w.cell? (X.add i)=some u):NdCell w X z:=by
 have k:∀i u,0<i→z.cells[i]?=some u→w.cell? ⟨X.block,X.off+i,none⟩=some u:=fun i u hi hu=>by
  have:=h i u hu;unfold Addr.add at this
  rwa[if_neg (by omega)]at this
 exact⟨by have:=h 0 _ rfl;rwa[R3]at this,k 1 _ (by decide) rfl,k 2 _ (by decide) rfl,k 3 _ (by decide) rfl,k 4 _ (by decide) rfl,k 5 _ (by decide) rfl,k 6 _ (by decide) rfl⟩
theorem Tryz.infoNode:(Tryz.prog.info? 68).map (fun i=>(i.zero,i.size,i.bytes))=some (some (.agg #[z9,z9,(),(),false,.int .u64 0,()]),7,104):=by kernel_rfl
structure NdRow (R:Nat→Prop) (base:Nat) (w:World) (v:Value) (zs:List Nd):Prop where
 own:w.ownsRow base 68 7 v zs.length (ndCells zs)
 nd:∀z∈zs,TNd (fun k=>v.ownBlock≠some k∧R k) w z
theorem NdRow.below {R:Nat→Prop} {base:Nat} {w w':World} {v:Value} {zs:List Nd} (h:NdRow R base w v zs) (hb:Below w w w'):NdRow R base w' v zs :=
 ⟨Q9 h.own (T2 hb) (fun k hk=>(h.own.lt k hk).2),fun z hz=>(h.nd z hz).below hb⟩
theorem NdRow.push {R:Nat→Prop} {base:Nat} {w w':World} {v v':Value} {zs:List Nd} {z:Nd} (h:NdRow R base w v zs) (hz:TNd (fun k=>v.ownBlock≠some k∧R k) w z)
  (hown:w'.ownsRow base 68 7 v' (zs.length+1) (ndCells zs++z.cells)) (hg:w.grownBy w' v.ownBlock) (hw:v'.ownBlock=v.ownBlock∨∃g,v'.ownBlock=some g∧w.heap.size≤g):NdRow R base w' v' (zs++[z]):=by
 have hkp:∀{y:Nd},TNd (fun k=>v.ownBlock≠some k∧R k) w y→TNd (fun k=>v'.ownBlock≠some k∧R k) w' y:=fun {y} hy =>
  hy.keep hg.size fun k hk hlt=>⟨hg.block k hlt (fun e=>hk.1 e.symm),by
   refine⟨?_,hk.2⟩
   rcases hw with e | ⟨g,e,hge⟩
   ·rw[e];exact hk.1
   ·rw[e];intro e2;cases e2;omega⟩
 refine⟨by rw[C6,List.length_singleton,A30];simpa[ndCells]using hown,fun y hy=>?_⟩
 rcases G3.1 hy with hy | hy
 ·exact hkp (h.nd y hy)
 ·rw[G4]at hy;subst hy;exact hkp hz
theorem NdRow.form {R:Nat→Prop} {base:Nat} {w:World} {v:Value} {zs:List Nd} (h:NdRow R base w v zs):∃A c,v=.slice A zs.length c:=by
 rcases h.own.2 with⟨rfl,h0⟩ | ⟨g,cap,cur,rfl,_⟩
 ·rw[h0];exact⟨none,0,rfl⟩
 ·exact⟨_,cap,rfl⟩
theorem NdRow.nks {R:Nat→Prop} {base:Nat} {w:World} {v:Value} {zs:List Nd} (h:NdRow R base w v zs) (hl:zs.length≤1000):∃d,NksOn (fun k=>v.ownBlock=some k∨R k) d w v (zs.map Nd.a):=by
 have hd:∃d,∀z∈zs,NksOn (fun k=>v.ownBlock=some k∨R k) d w z.x z.a.ks:=by
  have hnd:=h.nd;clear h hl
  induction zs with
  | nil=>exact⟨0,fun z hz=>by simp at hz⟩
  | cons z r ih =>
   obtain⟨d1,h1⟩:=ih fun y hy=>hnd y (F7 _ hy);obtain⟨d2,h2⟩:=(hnd z E9).ks;have h2':NksOn (fun k=>v.ownBlock=some k∨R k) d2 w z.x z.a.ks:=h2.keep (C3 _) fun k hk _=>⟨rfl,.inr hk.2⟩;refine⟨max d1 d2,fun y hy=>?_⟩
   rcases List.mem_cons.1 hy with rfl | hy
   ·exact h2'.mono (Nat.le_max_right _ _)
   ·exact(h1 y hy).mono (Nat.le_max_left _ _)
 obtain⟨d,hd⟩:=hd;refine⟨d+1,?_⟩
 rcases id h.own.2 with⟨rfl,h0⟩ | ⟨g,cap,cur,rfl,_,_,hnc,_⟩
 ·have:zs=[]:=D6 h0;subst this
  exact⟨none,0,rfl,by simp,fun j a hj=>by simp at hj⟩
 ·refine⟨_,cap,by rw[E0],by rw[E0];exact⟨by omega,hnc⟩,fun j a hj=>?_⟩
  rw[F5]at hj;obtain⟨z,hz,rfl⟩:=Option.map_eq_some_iff.1 hj;have hz':=h.nd z (C8 hz);refine⟨g,0,none,z,rfl,.inl rfl,(h.own.lt g rfl).2,A8k fun i u hi=>?_,rfl,hz'.n,hz'.tr.keep (C3 _) fun k hk _=>⟨rfl,.inr hk.2⟩,hd z (C8 hz)⟩
  have hi7:i<7:=by have:=(D8.1 hi).1;rwa[Nd.cells_length]at this
  have:=h.own.cells (g:=g) rfl (j*7+i) u (by rw[A1I hz hi7];exact hi)
  rw[Z7]at this;rw[Z7,A8S];exact this
end Go.Proofs.YtbddhkgbpjhhaaaGreatDoor
