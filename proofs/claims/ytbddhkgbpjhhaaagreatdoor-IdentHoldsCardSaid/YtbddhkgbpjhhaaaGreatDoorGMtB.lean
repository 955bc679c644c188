/-
  LAID TOGETHER, BY PROGRAM, of: Mta, Clr, Mtb, Mtc, Mtl, Mtd.
-/
import Derived.Test.YtbddhkgbpjhhaaaGreatDoorGPl2
import Derived.Test.YtbddhkgbpjhhaaaGreatDoorGBase
import Derived.Test.YtbddhkgbpjhhaaaGreatDoorGIter
import Derived.Test.YtbddhkgbpjhhaaaGreatDoorGPred
import Derived.Laws.AppendOwnNone
import Derived.Lib.BufferMore
import Derived.WalkKit
import Derived.WalkSpells
import Derived.OwnWalk
import Derived.Laws.OwnMore
import Derived.Laws.CopyOwn
import Derived.Lib.Hide
import Derived.Lib.AppendZerosOnto
import Derived.Lib.AppendZeros
set_option maxHeartbeats 3200000
set_option maxRecDepth 100000
namespace Go.Proofs.YtbddhkgbpjhhaaaGreatDoor
open Go.RowKit
def SlOn (T:Nat→Prop) (w:World) (v:Value) (xs:List Value):Prop :=
 ∃A c,v=.slice A xs.length c∧xs.length≤c∧∀j u,xs[j]?=some u→∃b o p,A=some ⟨b,o,p⟩∧T b∧b<w.heap.size∧w.cell? ((⟨b,o,p⟩:Addr).add j)=some u
def RowOn (T:Nat→Prop) (w:World) (v:Value) (r:List Vl):Prop :=
 ∃A c,v=.slice A r.length c∧r.length≤c∧∀j x,r[j]?=some x→∃b o p,A=some ⟨b,o,p⟩∧T b∧b<w.heap.size∧w.cell? ((⟨b,o,p⟩:Addr).add (j*2))=some (.bool x.1)∧w.cell? ((⟨b,o,p⟩:Addr).add (j*2+1))=some (.int .i64 x.2)
structure RwsIn (T:Nat→Prop) (w:World) (v:Value) (vs:List Value) (rs:List (List Vl)):Prop where
 sl:SlOn T w v vs
 len:vs.length=rs.length
 row:∀(i:Nat) (r:List Vl),rs[i]?=some r→∃u,vs[i]?=some u∧RowOn T w u r
def RwsOn (T:Nat→Prop) (w:World) (v:Value) (rs:List (List Vl)):Prop:=∃vs,RwsIn T w v vs rs
structure TusIn (T:Nat→Prop) (w:World) (v:Value) (us:List Value) (ts:List (List (List Vl))):Prop where
 sl:SlOn T w v us
 len:us.length=ts.length
 tup:∀(i:Nat) (t:List (List Vl)),ts[i]?=some t→∃u,us[i]?=some u∧RwsOn T w u t
def TusOn (T:Nat→Prop) (w:World) (v:Value) (ts:List (List (List Vl))):Prop:=∃us,TusIn T w v us ts
variable {T S:Nat→Prop} {w w':World} {v:Value}
theorem SlOn.keep {xs:List Value} (h:SlOn T w v xs) (hk:Keeps S w w') (hs:∀k,k<w.heap.size→T k→S k):SlOn T w' v xs:=by
 obtain⟨A,c,hv,hc,hx⟩:=h;refine⟨A,c,hv,hc,fun j u hj=>?_⟩;obtain⟨b,o,p,hA,hT,hlt,h0⟩:=hx j u hj
 exact⟨b,o,p,hA,hT,C9 hlt hk.size,(World.cell?_of_block (by rw[L7];exact hk.same b hlt (hs b hlt hT))).trans h0⟩
theorem SlOn.mono {xs:List Value} (h:SlOn T w v xs) (hs:∀k,k<w.heap.size→T k→S k):SlOn S w v xs:=by
 obtain⟨A,c,hv,hc,hx⟩:=h;refine⟨A,c,hv,hc,fun j u hj=>?_⟩;obtain⟨b,o,p,hA,hT,hlt,h0⟩:=hx j u hj;exact⟨b,o,p,hA,hs b hlt hT,hlt,h0⟩
theorem RowOn.keep {r:List Vl} (h:RowOn T w v r) (hk:Keeps S w w') (hs:∀k,k<w.heap.size→T k→S k):RowOn T w' v r:=by
 obtain⟨A,c,hv,hc,hx⟩:=h;refine⟨A,c,hv,hc,fun j u hj=>?_⟩;obtain⟨b,o,p,hA,hT,hlt,h0,h1⟩:=hx j u hj
 have k:∀n,w'.cell? ((⟨b,o,p⟩:Addr).add n)=w.cell? ((⟨b,o,p⟩:Addr).add n):=fun n=>World.cell?_of_block (by rw[L7];exact hk.same b hlt (hs b hlt hT))
 exact⟨b,o,p,hA,hT,C9 hlt hk.size,(k _).trans h0,(k _).trans h1⟩
theorem RowOn.mono {r:List Vl} (h:RowOn T w v r) (hs:∀k,k<w.heap.size→T k→S k):RowOn S w v r:=by
 obtain⟨A,c,hv,hc,hx⟩:=h;refine⟨A,c,hv,hc,fun j u hj=>?_⟩;obtain⟨b,o,p,hA,hT,hlt,h0⟩:=hx j u hj;exact⟨b,o,p,hA,hs b hlt hT,hlt,h0⟩
theorem RwsIn.keep {vs:List Value} {rs:List (List Vl)} (h:RwsIn T w v vs rs) (hk:Keeps S w w') (hs:∀k,k<w.heap.size→T k→S k):RwsIn T w' v vs rs :=
 ⟨h.sl.keep hk hs,h.len,fun i r hi=>by obtain⟨u,hu,hr⟩:=h.row i r hi;exact⟨u,hu,hr.keep hk hs⟩⟩
theorem RwsIn.mono {vs:List Value} {rs:List (List Vl)} (h:RwsIn T w v vs rs) (hs:∀k,k<w.heap.size→T k→S k):RwsIn S w v vs rs :=
 ⟨h.sl.mono hs,h.len,fun i r hi=>by obtain⟨u,hu,hr⟩:=h.row i r hi;exact⟨u,hu,hr.mono hs⟩⟩
theorem RwsOn.keep {rs:List (List Vl)} (h:RwsOn T w v rs) (hk:Keeps S w w') (hs:∀k,k<w.heap.size→T k→S k):RwsOn T w' v rs:=by
 obtain⟨vs,h⟩:=h;exact⟨vs,h.keep hk hs⟩
theorem RwsOn.mono {rs:List (List Vl)} (h:RwsOn T w v rs) (hs:∀k,k<w.heap.size→T k→S k):RwsOn S w v rs:=by
 obtain⟨vs,h⟩:=h;exact⟨vs,h.mono hs⟩
theorem TusIn.keep {us:List Value} {ts:List (List (List Vl))} (h:TusIn T w v us ts) (hk:Keeps S w w') (hs:∀k,k<w.heap.size→T k→S k):TusIn T w' v us ts :=
 ⟨h.sl.keep hk hs,h.len,fun i r hi=>by obtain⟨u,hu,hr⟩:=h.tup i r hi;exact⟨u,hu,hr.keep hk hs⟩⟩
theorem TusIn.mono {us:List Value} {ts:List (List (List Vl))} (h:TusIn T w v us ts) (hs:∀k,k<w.heap.size→T k→S k):TusIn S w v us ts :=
 ⟨h.sl.mono hs,h.len,fun i r hi=>by obtain⟨u,hu,hr⟩:=h.tup i r hi;exact⟨u,hu,hr.mono hs⟩⟩
theorem TusOn.keep {ts:List (List (List Vl))} (h:TusOn T w v ts) (hk:Keeps S w w') (hs:∀k,k<w.heap.size→T k→S k):TusOn T w' v ts:=by
 obtain⟨vs,h⟩:=h;exact⟨vs,h.keep hk hs⟩
theorem TusOn.mono {ts:List (List (List Vl))} (h:TusOn T w v ts) (hs:∀k,k<w.heap.size→T k→S k):TusOn S w v ts:=by
 obtain⟨vs,h⟩:=h;exact⟨vs,h.mono hs⟩
theorem T2 {B:Nat} (h:Below B w w'):Keeps (fun k=>k<B) w w':=⟨h.os,h.tape,h.output,h.size,fun k _ hk=>h.block k hk⟩
theorem RowOn.below {r:List Vl} {B:Nat} (h:RowOn T w v r) (hb:Below B w w') (hB:w.heap.size≤B):RowOn T w' v r:=h.keep (T2 hb) fun _ hk _=>C9 hk hB
theorem RwsOn.below {r:List (List Vl)} {B:Nat} (h:RwsOn T w v r) (hb:Below B w w') (hB:w.heap.size≤B):RwsOn T w' v r:=h.keep (T2 hb) fun _ hk _=>C9 hk hB
theorem TusOn.below {r:List (List (List Vl))} {B:Nat} (h:TusOn T w v r) (hb:Below B w w') (hB:w.heap.size≤B):TusOn T w' v r:=h.keep (T2 hb) fun _ hk _=>C9 hk hB
theorem S9 {row:Option Nat} (h:w.grownBy w' row):Keeps (fun k=>row≠some k) w w':=⟨h.os,h.tape,h.output,h.size,fun k hk hne=>h.block k hk (fun e=>hne e.symm)⟩
theorem RowOn.at_ {r:List Vl} (h:RowOn T w v r):RowAt w v r:=by
 obtain⟨A,c,hv,hc,hx⟩:=h
 exact⟨A,c,hv,hc,fun j x hj=>by obtain⟨b,o,p,h1,_,h3⟩:=hx j x hj;exact⟨b,o,p,h1,h3⟩⟩
theorem RowAt.on {r:List Vl} (h:RowAt w v r):RowOn (fun k=>k<w.heap.size) w v r:=by
 obtain⟨A,c,hv,hc,hx⟩:=h
 exact⟨A,c,hv,hc,fun j x hj=>by obtain⟨b,o,p,h1,h2,h3⟩:=hx j x hj;exact⟨b,o,p,h1,h2,h2,h3⟩⟩
theorem SlOn.sl {xs:List Value} (h:SlOn T w v xs):Sl w v xs:=by
 obtain⟨A,c,hv,hc,hx⟩:=h
 exact⟨A,c,hv,hc,fun j x hj=>by obtain⟨b,o,p,h1,_,h3⟩:=hx j x hj;exact⟨b,o,p,h1,h3⟩⟩
theorem Sl.on {xs:List Value} (h:Sl w v xs):SlOn (fun k=>k<w.heap.size) w v xs:=by
 obtain⟨A,c,hv,hc,hx⟩:=h
 exact⟨A,c,hv,hc,fun j x hj=>by obtain⟨b,o,p,h1,h2,h3⟩:=hx j x hj;exact⟨b,o,p,h1,h2,h2,h3⟩⟩
theorem RwsIn.of {vs:List Value} {rs:List (List Vl)} (h:RwsIn T w v vs rs):RwsOf w v vs rs:=⟨h.sl.sl,h.len,fun i r hi=>by obtain⟨u,hu,hr⟩:=h.row i r hi;exact⟨u,hu,hr.at_⟩⟩
theorem RwsOn.rws {rs:List (List Vl)} (h:RwsOn T w v rs):Rws w v rs:=by obtain⟨vs,h⟩:=h;exact⟨vs,h.of⟩
theorem Rws.on {rs:List (List Vl)} (h:Rws w v rs):RwsOn (fun k=>k<w.heap.size) w v rs:=by
 obtain⟨vs,h⟩:=h
 exact⟨vs,h.sl.on,h.len,fun i r hi=>by obtain⟨u,hu,hr⟩:=h.row i r hi;exact⟨u,hu,hr.on⟩⟩
theorem RowOn.nil (T:Nat→Prop) (w:World):RowOn T w (.slice none 0 0) []:=⟨none,0,rfl,C3 _,fun j x h=>by simp at h⟩
theorem SlOn.nil (T:Nat→Prop) (w:World):SlOn T w (.slice none 0 0) []:=⟨none,0,rfl,C3 _,fun j x h=>by simp at h⟩
theorem RwsOn.nil (T:Nat→Prop) (w:World):RwsOn T w (.slice none 0 0) []:=⟨[],SlOn.nil _ _,rfl,fun i r h=>by simp at h⟩
theorem TusOn.nil (T:Nat→Prop) (w:World):TusOn T w (.slice none 0 0) []:=⟨[],SlOn.nil _ _,rfl,fun i r h=>by simp at h⟩
theorem RowOn.one {r:List Vl} (h:RowOn T w v r):v.oneCell'=true:=by obtain⟨A,c,rfl,_⟩:=h;rfl
theorem SlOn.one {xs:List Value} (h:SlOn T w v xs):v.oneCell'=true:=by obtain⟨A,c,rfl,_⟩:=h;rfl
theorem RwsOn.one {rs:List (List Vl)} (h:RwsOn T w v rs):v.oneCell'=true:=by obtain⟨vs,h⟩:=h;exact h.sl.one
theorem RwsOn.form {rs:List (List Vl)} (h:RwsOn T w v rs):∃A c,v=.slice A rs.length c∧rs.length≤c:=by
 obtain⟨vs,⟨A,c,hv,hc,_⟩,hl,_⟩:=h;exact⟨A,c,by rw[←hl];exact hv,by omega⟩
theorem TusOn.form {ts:List (List (List Vl))} (h:TusOn T w v ts):∃A c,v=.slice A ts.length c∧ts.length≤c:=by
 obtain⟨vs,⟨A,c,hv,hc,_⟩,hl,_⟩:=h;exact⟨A,c,by rw[←hl];exact hv,by omega⟩
theorem RowOn.form {r:List Vl} (h:RowOn T w v r):∃A c,v=.slice A r.length c∧r.length≤c:=by obtain⟨A,c,hv,hc,_⟩:=h;exact⟨A,c,hv,hc⟩
theorem RwsOn.at_ {A:Option Addr} {n c:Nat} {rs:List (List Vl)} (h:RwsOn T w (.slice A n c) rs) {i:Nat} {r:List Vl} (hi:rs[i]?=some r) :
  ∃b o p B d,A=some ⟨b,o,p⟩∧T b∧b<w.heap.size∧w.cell? ((⟨b,o,p⟩:Addr).add i)=some (.slice B r.length d)∧r.length≤d∧RowOn T w (.slice B r.length d) r:=by
 obtain⟨vs,⟨A',c',hv,_,hx⟩,_,hr⟩:=h;cases hv;obtain⟨u,hu,hru⟩:=hr i r hi;obtain⟨b,o,p,hA,hT,hlt,hc⟩:=hx i u hu;obtain⟨B,d,rfl,hd⟩:=hru.form;exact⟨b,o,p,B,d,hA,hT,hlt,hc,hd,hru⟩
theorem TusOn.at_ {A:Option Addr} {n c:Nat} {ts:List (List (List Vl))} (h:TusOn T w (.slice A n c) ts) {i:Nat} {t:List (List Vl)} (hi:ts[i]?=some t) :
  ∃b o p B d,A=some ⟨b,o,p⟩∧T b∧b<w.heap.size∧w.cell? ((⟨b,o,p⟩:Addr).add i)=some (.slice B t.length d)∧t.length≤d∧RwsOn T w (.slice B t.length d) t:=by
 obtain⟨vs,⟨A',c',hv,_,hx⟩,_,hr⟩:=h;cases hv;obtain⟨u,hu,hru⟩:=hr i t hi;obtain⟨b,o,p,hA,hT,hlt,hc⟩:=hx i u hu;obtain⟨B,d,rfl,hd⟩:=hru.form;exact⟨b,o,p,B,d,hA,hT,hlt,hc,hd,hru⟩
theorem SlOn.own {base:Nat} {e:TypeId} {n:Nat} {xs:List Value} (h:w.ownsRow base e 1 v n xs):SlOn (fun k=>v.ownBlock=some k) w v xs:=by
 have hl:xs.length=n:=by have:=h.1;omega
 rcases h.2 with⟨hv,hn⟩ | ⟨g,cap,cur,hv,hb,hg,hnc,hcm,hs,ht⟩
 ·refine⟨none,0,by rw[hv,hl,hn],by omega,fun j u hu=>?_⟩
  have:xs=[]:=D6 (by omega)
  subst this;simp at hu
 ·refine⟨some ⟨g,0,none⟩,cap,by rw[hv,hl],by omega,fun j u hu=>⟨g,0,none,rfl,by rw[hv];rfl,?_,?_⟩⟩
  ·exact(D9.1 hg).1
  ·exact h.cells (g:=g) (by rw[hv];rfl) j u hu
theorem RwsOn.pick {A:Option Addr} {n c:Nat} {rs:List (List Vl)} (h:RwsOn T w (.slice A n c) rs) {i:Nat} {r:List Vl} (hi:rs[i]?=some r) :
  ∃b o p B d,A=some ⟨b,o,p⟩∧r.length≤d∧∀W,Below w w W→W.cell? ((⟨b,o,p⟩:Addr).add i)=some (.slice B r.length d)∧RowOn T W (.slice B r.length d) r:=by
 obtain⟨b,o,p,B,d,hA,_,hlt,hc,hd,hr⟩:=h.at_ hi
 exact⟨b,o,p,B,d,hA,hd,fun W hb=>⟨(hb.cell (by rw[L7];exact hlt)).trans hc,hr.below hb (C3 _)⟩⟩
theorem TusOn.pick {A:Option Addr} {n c:Nat} {ts:List (List (List Vl))} (h:TusOn T w (.slice A n c) ts) {i:Nat} {t:List (List Vl)} (hi:ts[i]?=some t) :
  ∃b o p B d,A=some ⟨b,o,p⟩∧t.length≤d∧∀W,Below w w W→W.cell? ((⟨b,o,p⟩:Addr).add i)=some (.slice B t.length d)∧RwsOn T W (.slice B t.length d) t:=by
 obtain⟨b,o,p,B,d,hA,_,hlt,hc,hd,hr⟩:=h.at_ hi
 exact⟨b,o,p,B,d,hA,hd,fun W hb=>⟨(hb.cell (by rw[L7];exact hlt)).trans hc,hr.below hb (C3 _)⟩⟩
def Al:Nat→Prop:=fun _=>True
theorem RwsOn.al {rs:List (List Vl)} (h:RwsOn T w v rs):RwsOn Al w v rs:=h.mono fun _ _ _=>trivial
theorem TusOn.al {rs:List (List (List Vl))} (h:TusOn T w v rs):TusOn Al w v rs:=h.mono fun _ _ _=>trivial
theorem Q9 {base:Nat} {e:TypeId} {s n:Nat} {xs:List Value} (h:w.ownsRow base e s v n xs) (hk:Keeps S w w') (hs:∀k,v.ownBlock=some k→S k):w'.ownsRow base e s v n xs:=by
 refine⟨h.1,?_⟩
 rcases h.2 with hn | ⟨g,cap,cur,rfl,h1,hg,rest⟩
 ·exact .inl hn
 ·exact .inr ⟨g,cap,cur,rfl,h1,(hk.same g (D9.1 hg).1 (hs g rfl)).trans hg,rest⟩
structure TuRow (R:Nat→Prop) (base:Nat) (w:World) (v:Value) (n:Nat) (us:List Value) (ts:List (List (List Vl))):Prop where
 own:w.ownsRow base 33 1 v n us
 len:ts.length=n
 tup:∀(i:Nat) (t:List (List Vl)),ts[i]?=some t→∃u,us[i]?=some u∧RwsOn (fun k=>v.ownBlock≠some k∧R k) w u t
theorem TuRow.keep {R:Nat→Prop} {base n:Nat} {us:List Value} {ts:List (List (List Vl))} (h:TuRow R base w v n us ts) (hk:Keeps S w w') (hs:∀k,v.ownBlock=some k→S k) (hs2:∀k,k<w.heap.size→v.ownBlock≠some k→R k→S k):TuRow R base w' v n us ts :=
 ⟨Q9 h.own hk hs,h.len,fun i t hi=>by obtain⟨u,hu,hr⟩:=h.tup i t hi;exact⟨u,hu,hr.keep hk fun k hk1 hk2=>hs2 k hk1 hk2.1 hk2.2⟩⟩
theorem TuRow.mono {R R':Nat→Prop} {base n:Nat} {us:List Value} {ts:List (List (List Vl))} (h:TuRow R base w v n us ts) (hs:∀k,k<w.heap.size→R k→R' k):TuRow R' base w v n us ts :=
 ⟨h.own,h.len,fun i t hi=>by obtain⟨u,hu,hr⟩:=h.tup i t hi;exact⟨u,hu,hr.mono fun k hk1 hk2=>⟨hk2.1,hs k hk1 hk2.2⟩⟩⟩
theorem TuRow.below {R:Nat→Prop} {base n:Nat} {us:List Value} {ts:List (List (List Vl))} (h:TuRow R base w v n us ts) (hb:Below w w w'):TuRow R base w' v n us ts :=
 h.keep (T2 hb) (fun k hk=>(h.own.lt k hk).2) fun _ hk _ _=>hk
theorem TuRow.push {R:Nat→Prop} {base n:Nat} {us:List Value} {ts:List (List (List Vl))} {v' u:Value} {t:List (List Vl)} (h:TuRow R base w v n us ts) (hu:RwsOn (fun k=>v.ownBlock≠some k∧R k) w u t)
  (hown:w'.ownsRow base 33 1 v' (n+1) (us++[u])) (hg:w.grownBy w' v.ownBlock) (hw:v'.ownBlock=v.ownBlock∨∃g,v'.ownBlock=some g∧w.heap.size≤g):TuRow R base w' v' (n+1) (us++[u]) (ts++[t]):=by
 have hkp:∀{x:Value} {y:List (List Vl)},RwsOn (fun k=>v.ownBlock≠some k∧R k) w x y→RwsOn (fun k=>v'.ownBlock≠some k∧R k) w' x y:=fun {x y} hx=>by
  have h1:RwsOn (fun k=>(v.ownBlock≠some k∧R k)∧k<w.heap.size) w x y:=hx.mono fun k hk1 hk2=>⟨hk2,hk1⟩;refine(h1.keep (S9 hg) fun _ _ hk2=>hk2.1.1).mono fun _ _ hk2=>⟨?_,hk2.1.2⟩
  rcases hw with e | ⟨g,e,hge⟩
  ·rw[e];exact hk2.1.1
  ·rw[e];intro e2;cases e2;have:=hk2.2;omega
 have hul:us.length=n:=by have:=h.own.1;omega
 refine⟨hown,by rw[C6,h.len];rfl,fun i x hi=>?_⟩
 by_cases e:i<ts.length
 ·rw[F2 e]at hi;obtain⟨y,hy,hr⟩:=h.tup i x hi
  exact⟨y,by rw[F2 (by rw[hul,←h.len];exact e)];exact hy,hkp hr⟩
 ·have hi2:i=ts.length:=by
   by_cases e2:i=ts.length
   ·exact e2
   ·rw[E6 (by simp;omega)]at hi;cases hi
  subst hi2;rw[E8 (C3 _),Nat.sub_self]at hi;cases hi;refine⟨u,?_,hkp hu⟩
  rw[E8 (by rw[hul,h.len];exact C3 _),hul,h.len,Nat.sub_self]
  rfl
theorem TuRow.tus {R:Nat→Prop} {base n:Nat} {us:List Value} {ts:List (List (List Vl))} (h:TuRow R base w v n us ts):TusOn Al w v ts :=
 ⟨us,(SlOn.own h.own).mono fun _ _ _=>trivial,by have:=h.own.1;have:=h.len;omega,fun i t hi=>by obtain⟨u,hu,hr⟩:=h.tup i t hi;exact⟨u,hu,hr.al⟩⟩
theorem TuRow.tusOn {R S:Nat→Prop} {base n:Nat} {us:List Value} {ts:List (List (List Vl))} (h:TuRow R base w v n us ts) (hb:∀k,base≤k→S k) (hR:∀k,R k→S k):TusOn S w v ts :=
 ⟨us,(SlOn.own h.own).mono fun k _ hk=>hb k (h.own.lt k hk).1,by have:=h.own.1;have:=h.len;omega,fun i t hi=>by obtain⟨u,hu,hr⟩:=h.tup i t hi;exact⟨u,hu,hr.mono fun k _ hk=>hR k hk.2⟩⟩
theorem S2 (g k:Nat):(⟨g,0,none⟩:Addr).add k=⟨g,k,none⟩:=by
 unfold Addr.add
 split
 ·next h=>subst h;rfl
 ·simp
theorem Q8 {P:Program} (w:World) {ops:Array Oper} {rest:List Oper} {o:Oper} {a:Act} {Q:Exit→Act→World→Prop} (hgd:o.guard=none) (s x:Operand) (t:TypeId)
  (ho:o.op=.call { callee:=.builtin .append,args:=#[s,x],argTypes:=#[t,t] })
  (base:Nat) (e:TypeId) (i:TypeInfo) (z:Value) (size bytes:Nat) (ht:P.underlying t=some (.slice e)) (hi:P.info? e=some i) (hz:i.zero=some z)
  (hsize:i.size=size) (hby:i.bytes=bytes) (hzs:z.cells.size=size) (hs0:0<size)
  (v:Value) (n:Nat) (xs:List Value) (hs:a.eval s=v) (hown:w.ownsRow base e size v n xs)
  (ad:Addr) (m c:Nat) (news:List Value) (hx:a.eval x=.slice (some ad) m c) (hl:news.length=m*size) (hc:∀j u,news[j]?=some u→w.cell? (ad.add j)=some u) (h1:∀u∈news,u.oneCell'=true)
  (h63:n+m≤maxLen) (hbytes:(n+m)*bytes≤140737488355328) (hbase:base≤w.heap.size)
  (h:∀v' w',w'.ownsRow base e size v' (n+m) (xs++news)→w.grownBy w' v.ownBlock→(v'.ownBlock=v.ownBlock∨∃g,v'.ownBlock=some g∧w.heap.size≤g)→wpList P ops Q rest (a.put o.dst v') w'):wpList P ops Q (o::rest) a w:=by
 refine wpList_plain hgd fun K hK=>?_;obtain⟨v',w',hrun,r1,r2,r3⟩:=V7 (P:=P) w base t o.type e i z size bytes ht hi hz hsize hby hzs hs0 v n xs hown ad m c news hl hc h1 h63 hbytes hbase;unfold Oper.wp
 simp[execOp,ho,resolve,invoke,builtin,hs,hx,hrun,Result.andThen]
 exact hK _ _ (h v' w' r1 r2 r3)
theorem Tryz.infoRow13:(Tryz.prog.info? 63).map (fun i=>(i.zero,i.size,i.bytes))=some (some (.slice none 0 0),1,24):=by kernel_rfl
theorem Tryz.infoTup13:(Tryz.prog.info? 33).map (fun i=>(i.zero,i.size,i.bytes))=some (some (.slice none 0 0),1,24):=by kernel_rfl
theorem SlOn.src {A:Option Addr} {n c:Nat} {xs:List Value} (h:SlOn T w (.slice A n c) xs) (h0:0<xs.length):∃ad,A=some ad∧∀(j:Nat) (u:Value),xs[j]?=some u→w.cell? (ad.add j)=some u:=by
 obtain⟨A',c',hv,_,hx⟩:=h;cases hv;obtain⟨b,o,p,rfl,_⟩:=hx 0 _ (A8 h0);refine⟨_,rfl,fun j u hj=>?_⟩;obtain⟨b',o',p',hA,_,_,hc⟩:=hx j u hj;cases hA;exact hc
theorem RwsIn.ones {vs:List Value} {rs:List (List Vl)} (h:RwsIn T w v vs rs):∀u∈vs,u.oneCell'=true:=fun u hu=>by
 obtain⟨i,hi,rfl⟩:=F9.1 hu
 obtain⟨u,h1,h2⟩:=h.row i _ (A8 (show i<rs.length by have:=h.len;omega))
 rw[A8 hi]at h1;cases h1;exact h2.one
theorem N4 (h:Below w w w'):Keeps S w w':=⟨h.os,h.tape,h.output,h.size,fun k hk _=>h.block k hk⟩
theorem RwsOn.at_keep {A:Option Addr} {n c:Nat} {rs:List (List Vl)} (h:RwsOn T w (.slice A n c) rs) (hk:Keeps S w w') (hs:∀k,T k→S k) {i:Nat} {r:List Vl} (hi:rs[i]?=some r) :
  ∃b o p B d,A=some ⟨b,o,p⟩∧r.length≤d∧w'.cell? ((⟨b,o,p⟩:Addr).add i)=some (.slice B r.length d)∧RowOn T w (.slice B r.length d) r:=by
 obtain⟨b,o,p,B,d,hA,hT,hlt,hc,hd,hr⟩:=h.at_ hi
 exact⟨b,o,p,B,d,hA,hd,(World.cell?_of_block (by rw[L7];exact hk.same b hlt (hs b hT))).trans hc,hr⟩
theorem TusOn.at_keep {A:Option Addr} {n c:Nat} {ts:List (List (List Vl))} (h:TusOn T w (.slice A n c) ts) (hk:Keeps S w w') (hs:∀k,T k→S k) {i:Nat} {t:List (List Vl)} (hi:ts[i]?=some t) :
  ∃b o p B d,A=some ⟨b,o,p⟩∧t.length≤d∧w'.cell? ((⟨b,o,p⟩:Addr).add i)=some (.slice B t.length d)∧RwsOn T w (.slice B t.length d) t:=by
 obtain⟨b,o,p,B,d,hA,hT,hlt,hc,hd,hr⟩:=h.at_ hi
 exact⟨b,o,p,B,d,hA,hd,(World.cell?_of_block (by rw[L7];exact hk.same b hlt (hs b hT))).trans hc,hr⟩
end Go.Proofs.YtbddhkgbpjhhaaaGreatDoor
namespace Go.Proofs.YtbddhkgbpjhhaaaGreatDoor
open Go.RowKit Go.Sort
def rowCells (r:List Vl):List Value:=r.flatMap fun x=>[x.1,x.2]
theorem J9 (r:List Vl):(rowCells r).length=r.length*2:=by
 unfold rowCells
 induction r with
 | nil=>rfl
 | cons x r ih=>rw[E5,C6,ih,G5];simp;omega
theorem R8 (r:List Vl):∀u∈rowCells r,u.oneCell'=true:=by
 intro u hu;simp only[rowCells,List.mem_flatMap]at hu;obtain⟨x,_,hx⟩:=hu
 simp at hx
 rcases hx with rfl | rfl <;> rfl
theorem S8 (r:List Vl) {j:Nat} {x:Vl} (h:r[j]?=some x):(rowCells r)[j*2]?=some (.bool x.1)∧(rowCells r)[j*2+1]?=some (.int .i64 x.2):=by
 induction r generalizing j with
 | nil=>simp at h
 | cons y r ih =>
  unfold rowCells;rw[E5]
  cases j with
  | zero=>simp at h;subst h;exact⟨rfl,rfl⟩
  | succ j =>
   have:=ih (by simpa using h)
   rw[show(j+1)*2=j*2+2 by omega]
   exact this
theorem A2E (r:List Vl) {k:Nat} {u:Value} (h:(rowCells r)[k]?=some u):∃j x,r[j]?=some x∧((k=j*2∧u=.bool x.1)∨(k=j*2+1∧u=.int .i64 x.2)):=by
 have hk:=(D8.1 h).1;rw[J9]at hk
 have hj:k / 2<r.length:=by omega
 obtain⟨h1,h2⟩:=S8 r (A8 hj);refine⟨k / 2,_,A8 hj,?_⟩
 rcases Nat.mod_two_eq_zero_or_one k with e | e
 ·have:k=k / 2*2:=by omega
  rw[←this,h]at h1;exact .inl ⟨this,F0 h1⟩
 ·have:k=k / 2*2+1:=by omega
  rw[←this,h]at h2;exact .inr ⟨this,F0 h2⟩
theorem Tryz.infoVal9:(Tryz.prog.info? 53).map (fun i=>(i.zero,i.size,i.bytes))=some (some (.agg #[false,z9]),2,16):=by kernel_rfl
theorem A6n {w:World} {base:Nat} {v:Value} {r:List Vl} (h:w.ownsRow base 53 2 v r.length (rowCells r)):RowOn (fun k=>base≤k) w v r:=by
 rcases h.2 with⟨hv,hn⟩ | ⟨g,cap,cur,rfl,hb,hg,hnc,_⟩
 ·have:r=[]:=D6 hn;subst this
  exact⟨none,0,hv,C3 _,fun j x hj=>by simp at hj⟩
 ·refine⟨_,cap,rfl,hnc,fun j x hj=>⟨g,0,none,rfl,hb,(D9.1 hg).1,?_,?_⟩⟩
  ·exact h.cells (g:=g) rfl _ _ (S8 r hj).1
  ·exact h.cells (g:=g) rfl _ _ (S8 r hj).2
theorem RowAt.cells {w:World} {b:Addr} {c:Nat} {r:List Vl} (h:RowAt w (.slice (some b) r.length c) r):∀(j:Nat) (u:Value),(rowCells r)[j]?=some u→w.cell? (b.add j)=some u:=by
 obtain⟨A,c',hv,_,hx⟩:=h
 injection hv with f1 f2 f3
 intro k u hk;obtain⟨j,x,hj,h2⟩:=A2E r hk;obtain⟨b',o,p,hA,_,h4,h5⟩:=hx j x hj;rw[←f1]at hA;cases hA
 rcases h2 with⟨rfl,rfl⟩ | ⟨rfl,rfl⟩
 ·exact h4
 ·exact h5
def Cloned (w:World) (r:List Vl) (E:Ending) (w':World):Prop:=∃A c,E=.returned (.slice A r.length c)∧RowOn (fun k=>w.heap.size≤k) w' (.slice A r.length c) r∧Below w w w'
theorem A3G (v:Value) (r:List Vl) (w:World) (hv:RowAt w v r) (hr:r.length≤1000000) :
  Calls Tryz.prog 89 #[v] w (Cloned w r):=by
 obtain⟨A,c,rfl,_,_⟩:=id hv;obtain⟨i0,hi,hz0,hz1,hz2⟩:=info_parts Tryz.infoVal9;have hnil:=fun(W:World)=>Lib.run_eql_slice_nil_nil (P:=Tryz.prog) W r.length c Tryz.underlying63;have hsome:=fun(W:World) (b:Addr)=>Lib.run_eql_slice_some_nil (P:=Tryz.prog) W b r.length c Tryz.underlying63
 cases A with
 | none =>
  have h0:r=[]:=by
   cases r with
   | nil=>rfl
   | cons x r =>
    obtain⟨A',c',hv',_,hx⟩:=hv
    injection hv' with f1 f2 f3
    obtain⟨b,o,p,hA,_⟩:=hx 0 x rfl;rw[←f1]at hA;cases hA
  subst h0;clear hsome hv hnil;have hnil:=fun(W:World)=>Lib.run_eql_slice_nil_nil (P:=Tryz.prog) W 0 c Tryz.underlying63;go_enter Tryz.func89,Tryz.ntmps89;go_wp2_with (fail);go_ret
  exact⟨none,0,rfl,⟨none,0,rfl,C3 _,fun j x hj=>by simp at hj⟩,Below.refl _ _⟩
 | some b =>
  obtain⟨W0,hW0⟩:∃W0,W0=w.alloc (Obj.cells #[] 53):=⟨_,rfl⟩
  have hb0:Below w w W0:=by rw[hW0];exact J6 _ _
  have hcell:=J1 (hv.below hb0 (C3 _)).cells
  have hown:Hid (W0.ownsRow w.heap.size 53 2 (.slice (some ⟨w.heap.size,0,none⟩) 0 0) 0 []):=J1 (by rw[hW0];exact World.ownsRow_made w #[] 0 (C3 _) (by decide) rfl)
  have hsm:=fun W=>hsome W b;have HW:=J1 hW0;clear hv hsome hnil hW0;go_enter Tryz.func89,Tryz.ntmps89
  go_wp2_with (first
   | (at_builtin;rw[←HW.out];refine wpList_append_own _ rfl _ _ 63 rfl w.heap.size 53 i0 (.agg #[false,z9]) 2 16 Tryz.underlying63 hi hz0 hz1 hz2 rfl (by decide) _ 0 [] rfl hown.out b r.length c (rowCells r) rfl (J9 r) hcell.out (R8 r) (by unfold maxLen;omega) (by omega) hb0.size ?_))
  intro v' w' hown' hgrow _;have hb2:Below w w w':=hb0.grown hgrow hb0.size (fun q hq=>(hown.out.lt q hq).1)
  have hup:RowOn (fun k=>w.heap.size≤k) w' v' r:=A6n (by simpa using hown')
  obtain⟨A',c',rfl,_,_⟩:=id hup;have HUP:=J1 hup;clear hown' hgrow hup hown hcell hsm;go_wp2_with (fail);go_ret;exact⟨A',c',rfl,HUP.out,hb2⟩
section
variable (z:Bool) (n:Int) (z':Bool) (n':Int) (w:World)
end
def TuplesOn (S:Nat→Prop) (w:World) (ts:List (List (List Vl))) (E:Ending) (w':World):Prop :=
 ∃A c,E=.returned (.slice A ts.length c)∧TusOn S w' (.slice A ts.length c) ts∧Below w w w'
theorem ownsForm {w:World} {base n:Nat} {e:TypeId} {s:Nat} {v:Value} {us:List Value} (h:w.ownsRow base e s v n us):∃A c,v=.slice A n c:=by
 rcases h.2 with⟨rfl,rfl⟩ | ⟨g,cap,cur,rfl,_⟩
 ·exact⟨none,0,rfl⟩
 ·exact⟨_,cap,rfl⟩
theorem A6a {T S:Nat→Prop} {w:World} {A:Option Addr} {c n:Nat} {t:List (List Vl)} (h:RwsOn T w (.slice A n c) t) (e:TypeId) (hT:∀k,T k→S k) (hs:S w.heap.size):TusOn S (w.alloc (Obj.cells #[.slice A n c] e)) (.slice (some ⟨w.heap.size,0,none⟩) 1 1) [t]:=by
 have hb:=J6 w (Obj.cells #[.slice A n c] e)
 refine⟨[.slice A n c],⟨_,1,rfl,C3 _,fun j u hu=>⟨w.heap.size,0,none,rfl,hs,by simp,cell_one_new _ _ _ j u hu⟩⟩,rfl,fun i x hi=>?_⟩
 cases i with
 | zero=>cases hi;exact⟨_,rfl,(h.below hb (C3 _)).mono fun k _ hk=>hT k hk⟩
 | succ i=>simp at hi
open Go Go.RowKit
variable {P:Program}
theorem A03 (w:World) (g:Nat) (cs:Array Value):Keeps (fun k=>k≠g) w (w.setRow g cs) :=
 ⟨rfl,rfl,rfl,by simp[World.setRow],fun k _ hk=>setRow_other w g k cs hk⟩
theorem X2 (w:World) (p:Addr) (u:Value):Keeps (fun k=>k≠p.block) w (w.setCell p u) :=
 ⟨rfl,rfl,rfl,by simp,fun k _ hk=>Below.heap_setCell w p u k hk⟩
theorem A2B (w:World) (t e ty:TypeId) (z:Value) (ht:P.underlying t=some (.slice e)) (hv:∀w,(zeroValue e).run P w=.ok z w) (hz:z.cells=#[z]) (h1:z.oneCell'=true)
  (g n c:Nat) (cur:List Value) (T:TypeId) (hg:w.heap[g]?=some (.cells cur.toArray T (0,0))) (hn:n≤cur.length) :
  ∃w',(Builtin.clear_ #[t] ty #[.slice (some ⟨g,0,none⟩) n c]).run P w=.ok (.tuple #[]) w'∧w'.heap[g]?=some (.cells (List.replicate n z++cur.drop n).toArray T (0,0))∧Keeps (fun k=>k≠g) w w'∧w'.heap.size=w.heap.size:=by
 cases n with
 | zero =>
  refine⟨w,?_,by simpa using hg,Keeps.refl _ _,rfl⟩
  simp[Builtin.clear_,run_underlying ht]
 | succ n =>
  have hzc:(Builtin.zeroCells z.cells (n+1)).toList=List.replicate (n+1) z:=by
   refine List.eq_replicate_iff.2 ⟨by simp[Builtin.zeroCells,hz],fun b hb=>?_⟩
   obtain⟨i,hi,rfl⟩:=F9.1 hb
   simp[Builtin.zeroCells,hz,Nat.mod_one]
  have hst:=run_storeCells_at P g 0 T (List.replicate (n+1) z) 0 cur.toArray w hg (by simpa using hn) (by intro v hv';rw[List.eq_of_mem_replicate hv'];exact h1)
  have hst':(storeCells ⟨g,0,none⟩ (List.replicate (n+1) z) 0).run P w=.ok () (w.setRow g (List.replicate (n+1) z++cur.drop (n+1)).toArray):=by
   rw[hst];simp
  refine⟨w.setRow g (List.replicate (n+1) z++cur.drop (n+1)).toArray,?_,setRow_heap w g _ _ T _ hg,A03 w g _,by simp[World.setRow]⟩
  simp[Builtin.clear_,run_underlying ht,hv,hzc,hst']
theorem A09 (w:World) {ops:Array Oper} {rest:List Oper} {o:Oper} {a:Act} {Q:Exit→Act→World→Prop} (hgd:o.guard=none) (s:Operand) (t:TypeId)
  (ho:o.op=.call { callee:=.builtin .clear,args:=#[s],argTypes:=#[t] }) (e:TypeId) (z:Value) (ht:P.underlying t=some (.slice e)) (hv:∀w,(zeroValue e).run P w=.ok z w) (hz:z.cells=#[z]) (h1:z.oneCell'=true)
  (g n c:Nat) (hs:a.eval s=.slice (some ⟨g,0,none⟩) n c) (cur:List Value) (T:TypeId) (hg:w.heap[g]?=some (.cells cur.toArray T (0,0))) (hn:n≤cur.length)
  (h:∀w',w'.heap[g]?=some (.cells (List.replicate n z++cur.drop n).toArray T (0,0))→Keeps (fun k=>k≠g) w w'→w'.heap.size=w.heap.size→wpList P ops Q rest (a.put o.dst (.tuple #[])) w'):wpList P ops Q (o::rest) a w:=by
 refine wpList_plain hgd fun K hK=>?_;obtain⟨w',hrun,r1,r2,r3⟩:=A2B (P:=P) w t e o.type z ht hv hz h1 g n c cur T hg hn;unfold Oper.wp
 simp[execOp,ho,resolve,invoke,builtin,hs,hrun,Result.andThen]
 exact hK _ _ (h w' r1 r2 r3)
theorem A0Y (w:World) (dT sT ty elem:TypeId) (size:Nat) (hu:P.underlying dT=some (.slice elem)) (hsz:(P.info? elem).map (·.size)=some size)
  (dp sp:Option Addr) (dLen dCap sLen sCap:Nat)
  (g off:Nat) (cur:List Value) (t:TypeId) (hg:w.heap[g]?=some (.cells cur.toArray t (0,0))) (k:Nat) (hk:k=Nat.min sLen dLen) (cs:List Value) (hn:cs.length=k*size)
  (hpos:0<cs.length→dp=some ⟨g,off,none⟩∧∃ad,sp=some ad∧∀j v,cs[j]?=some v→w.cell? (ad.add j)=some v)
  (hs0:0<size) (hfit:off+cs.length≤cur.length) (h1:∀v∈cs,v.oneCell'=true) :
  ∃w',(Builtin.copy_ #[dT,sT] ty #[.slice dp dLen dCap,.slice sp sLen sCap]).run P w=.ok (goInt k) w'∧w'.heap[g]?=some (.cells (splice cur off cs).toArray t (0,0))∧Keeps (fun k=>k≠g) w w'∧w'.heap.size=w.heap.size:=by
 cases hq:P.info? elem with
 | none=>simp[hq]at hsz
 | some i =>
  have hi:i.size=size:=by simpa[hq]using hsz
  by_cases h0:cs.length=0
  ·obtain rfl:cs=[]:=D6 h0
   have hk0:k=0:=by
    rcases Nat.eq_zero_or_pos k with e | e
    ·exact e
    ·have:=Nat.mul_pos e hs0;simp at hn;omega
   refine⟨w,?_,by simpa[splice]using hg,Keeps.refl _ _,rfl⟩
   subst hk0
   have hfc:∀x:Option Addr,(Builtin.firstCells i.size 0 (.slice x sLen sCap)).run P w=.ok #[] w:=fun x=>by
    cases x with
    | none=>exact run_firstCells_none w i.size 0 sLen sCap
    | some ad=>exact run_firstCells_some (P:=P) w i.size 0 ad sLen sCap [] (by simp) (by simp)
   cases dp <;> simp[Builtin.copy_,run_underlying hu,Builtin.lenOf,sizeOf,typeInfo,hq,←hk,hfc,storeCells]
  ·obtain⟨rfl,ad,rfl,hsrc⟩:=hpos (by omega)
   have hl:=run_firstCells_some (P:=P) w i.size k ad sLen sCap cs (by rw[hi];exact hn) hsrc
   have hst:=run_storeCells_at P g off t cs 0 cur.toArray w hg (by simpa using hfit) h1
   have hst':(storeCells ⟨g,off,none⟩ cs 0).run P w=.ok () (w.setRow g (splice cur off cs).toArray):=by
    rw[hst];simp[splice]
   refine⟨w.setRow g (splice cur off cs).toArray,?_,setRow_heap w g _ _ t _ hg,A03 w g _,by simp[World.setRow]⟩
   simp[Builtin.copy_,run_underlying hu,Builtin.lenOf,sizeOf,typeInfo,hq,←hk,hl,hst']
theorem X5 (w:World) {ops:Array Oper} {rest:List Oper} {o:Oper} {a:Act} {Q:Exit→Act→World→Prop} (hgd:o.guard=none) (d s:Operand) (dT sT:TypeId)
  (ho:o.op=.call { callee:=.builtin .copy,args:=#[d,s],argTypes:=#[dT,sT] }) (elem:TypeId) (size:Nat) (hu:P.underlying dT=some (.slice elem)) (hsz:(P.info? elem).map (·.size)=some size)
  (dp sp:Option Addr) (dLen dCap sLen sCap:Nat) (hd:a.eval d=.slice dp dLen dCap) (hs:a.eval s=.slice sp sLen sCap)
  (g off:Nat) (cur:List Value) (t:TypeId) (hg:w.heap[g]?=some (.cells cur.toArray t (0,0))) (k:Nat) (hk:k=Nat.min sLen dLen) (cs:List Value) (hn:cs.length=k*size)
  (hpos:0<cs.length→dp=some ⟨g,off,none⟩∧∃ad,sp=some ad∧∀j v,cs[j]?=some v→w.cell? (ad.add j)=some v)
  (hs0:0<size) (hfit:off+cs.length≤cur.length) (h1:∀v∈cs,v.oneCell'=true)
  (h:∀w',w'.heap[g]?=some (.cells (splice cur off cs).toArray t (0,0))→Keeps (fun k=>k≠g) w w'→w'.heap.size=w.heap.size→wpList P ops Q rest (a.put o.dst (goInt k)) w'):wpList P ops Q (o::rest) a w:=by
 refine wpList_plain hgd fun K hK=>?_;obtain⟨w',hrun,r1,r2,r3⟩:=A0Y (P:=P) w dT sT o.type elem size hu hsz dp sp dLen dCap sLen sCap g off cur t hg k hk cs hn hpos hs0 hfit h1;unfold Oper.wp
 simp[execOp,ho,resolve,invoke,builtin,hd,hs,hrun,Result.andThen]
 exact hK _ _ (h w' r1 r2 r3)
theorem T9 {ops:Array Oper} {o:Oper} {a:Act} {w:World} {K:Act→World→Prop} {Q:Exit→Act→World→Prop} {E:Prop} (hgd:o.guard=none) (d s:Operand) (dT sT:TypeId)
  (ho:o.op=.call { callee:=.builtin .copy,args:=#[d,s],argTypes:=#[dT,sT] }) (elem:TypeId) (size:Nat) (hu:P.underlying dT=some (.slice elem)) (hsz:(P.info? elem).map (·.size)=some size)
  (dp sp:Option Addr) (dLen dCap sLen sCap:Nat) (hd:a.eval d=.slice dp dLen dCap) (hs:a.eval s=.slice sp sLen sCap)
  (g off:Nat) (cur:List Value) (t:TypeId) (hg:w.heap[g]?=some (.cells cur.toArray t (0,0))) (k:Nat) (hk:k=Nat.min sLen dLen) (cs:List Value) (hn:cs.length=k*size)
  (hpos:0<cs.length→dp=some ⟨g,off,none⟩∧∃ad,sp=some ad∧∀j v,cs[j]?=some v→w.cell? (ad.add j)=some v)
  (hs0:0<size) (hfit:off+cs.length≤cur.length) (h1:∀v∈cs,v.oneCell'=true)
  (h:∀w',Hid (w'.heap[g]?=some (.cells (splice cur off cs).toArray t (0,0))∧Keeps (fun k=>k≠g) w w'∧w'.heap.size=w.heap.size)→K (a.put o.dst (goInt k)) w') :
  if Region.wanted o (yielded ops a.tmps)=true then Oper.wp P o a w K Q else E:=by
 have hw:Region.wanted o (yielded ops a.tmps)=true:=by simp[Region.wanted,hgd]
 rw[if_pos hw];obtain⟨w',hrun,r1,r2,r3⟩:=A0Y (P:=P) w dT sT o.type elem size hu hsz dp sp dLen dCap sLen sCap g off cur t hg k hk cs hn hpos hs0 hfit h1;unfold Oper.wp
 simp[execOp,ho,resolve,invoke,builtin,hd,hs,hrun,Result.andThen]
 exact h w' (J1 ⟨r1,r2,r3⟩)
end Go.Proofs.YtbddhkgbpjhhaaaGreatDoor
namespace Go.Proofs.YtbddhkgbpjhhaaaGreatDoor
open Go.RowKit Go.Sort
def A9C (base n:Nat) (v:Value) (w:World) (E:Ending) (w':World):Prop :=
 ∃A c,E=.returned (.slice A 0 c)∧w'.ownsRow base 63 1 (.slice A 0 c) 0 []∧n≤c∧Below w w w'∧((Value.slice A 0 c).ownBlock=v.ownBlock∨∃g,(Value.slice A 0 c).ownBlock=some g∧w.heap.size≤g)
theorem A7y {w:World} {A:Option Addr} {c base:Nat} (h:w.ownsRow base 63 1 (.slice A 0 c) 0 []) :
  ∃olds:List Value,olds.length=c∧(Builtin.firstCells 1 c (.slice A c c)).run Tryz.prog w.drew=.ok olds.toArray w.drew:=by
 rcases h.2 with⟨hv,_⟩ | ⟨g,cap,cur,hv,hb,hg,_,hm,hs,_⟩
 ·cases hv;exact⟨[],rfl,run_firstCells_none w.drew 1 0 0 0⟩
 ·cases hv
  refine⟨cur.toList,by simpa using hs,run_firstCells_some (P:=Tryz.prog) w.drew 1 c ⟨g,0,none⟩ c c cur.toList (by simpa using hs) fun j u hj=>?_⟩
  have e:((⟨g,0,none⟩:Addr).add j)=⟨g,j,none⟩:=by
   unfold Addr.add
   split <;> simp_all
  rw[e]
  show w.cell? _=_
  unfold World.cell?;simp only[hg]
  simpa using hj
theorem A7c (base n c:Nat) (A:Option Addr) (w:World) (hn:n≤1000) (hown:w.ownsRow base 63 1 (.slice A 0 c) 0 []) (hbase:base≤w.heap.size) :
  Calls Tryz.prog 205 #[.slice A 0 c,(n:Int)] w (A9C base n (.slice A 0 c) w):=by
 obtain⟨i0,hi,hz0,hz1,hz2⟩:=info_parts Tryz.infoRow13
 have hcm:c≤maxLen:=by
  rcases hown.2 with⟨hv,_⟩ | ⟨g,cap,cur,hv,hb,hg,_,hm,hs,_⟩
  ·cases hv;unfold maxLen;omega
  ·cases hv;exact hm
 have hc63:c≤9223372036854775807:=by unfold maxLen at hcm;omega
 have h1:¬((n:Int)<0):=by omega
 have h2:wrap64 ((c:Int)-(0:Int))=(c:Int):=by unfold wrap64;omega
 have h3:wrap64 ((n:Int)-(c:Int))=(n:Int)-(c:Int):=by unfold wrap64;omega
 by_cases hroom:n≤c
 ·have h4:¬((n:Int)-(c:Int)>0):=by omega
  have HO:=J1 hown;clear hown;go_enter Tryz.func205,Tryz.ntmps205;go_wp2_with fail;go_ret;exact⟨A,c,rfl,HO.out,hroom,Below.refl _ _,.inl rfl⟩
 ·have h4:((n:Int)-(c:Int)>0):=by omega
  obtain⟨olds,hol,hold⟩:=A7y hown
  have hck:c+(n-c)=n:=by omega
  have hr:∀ty,(Builtin.append_ #[33,3] ty #[.slice A c c,.int .i64 ((n:Int)-(c:Int))]).run Tryz.prog w =
    .ok (.slice (some ⟨w.heap.size,0,none⟩) n (grownCap w n c 63)) (w.drew.alloc (.cells (olds.toArray++Builtin.zeroCells (.slice none 0 0:Value).cells (n-c)++Builtin.zeroCells (.slice none 0 0:Value).cells (grownCap w n c 63-n)) 63)):=fun ty=>by
   have h:=Lib.run_append_grow_zeros (P:=Tryz.prog) w 33 3 ty 63 i0 (.slice none 0 0) .i64 .i64 Tryz.underlying33 Tryz.underlying3 hi hz0 A c c olds (by rw[hz1];exact hold) (n-c) (by omega) (by rw[hz1];decide) (by omega) (by omega) (by rw[hz2];omega)
    (by rw[hck];exact growslice_fits (by omega) (by rw[hz2];omega))
   rw[hck]at h
   rw[show(n:Int)-(c:Int)=((n-c:Nat):Int) by omega]
   exact h
  obtain⟨G,hG⟩:∃G,G=grownCap w n c 63:=⟨_,rfl⟩
  have hG1:G≤maxLen:=by rw[hG];exact grownCap_le_maxLen w n c _ (by unfold maxLen;omega)
  have hG2:n≤G:=by rw[hG];exact grownCap_ge w _ _ _
  have hG3:G≤9223372036854775807:=by unfold maxLen at hG1;omega
  rw[←hG]at hr;obtain⟨cur,hcur⟩:∃cur,cur=olds.toArray++Builtin.zeroCells (.slice none 0 0:Value).cells (n-c)++Builtin.zeroCells (.slice none 0 0:Value).cells (G-n):=⟨_,rfl⟩
  have hcs:cur.size=G*1:=by
   rw[hcur,Array.size_append,Array.size_append,size_zeroCells,size_zeroCells,show(.slice none 0 0:Value).cells.size=1 from rfl,List.size_toArray,hol];omega
  rw[←hcur]at hr;clear hcur hG hold hck;have how:=J1 (World.ownsRow_made (base:=base) (size:=1) (e:=63) w.drew cur G hbase hG1 hcs)
  have hbw:=J1 (show Below w w (w.drew.alloc (.cells cur 63)) from((Below.refl _ w).drew).alloc (C3 _) _)
  have HO:=J1 hown;clear hown hroom;go_enter Tryz.func205,Tryz.ntmps205
  go_wp2_with (first | (at_builtin;refine Lib.wpList_append_run _ rfl _ _ _ _ rfl _ _ rfl rfl _ _ (hr _) ?_))
  all_goals(go_ret;exact⟨_,G,rfl,how.out,hG2,hbw.out,.inr ⟨w.heap.size,rfl,C3 _⟩⟩)
theorem A9x {w:World} {base n:Nat} {v:Value} {xs:List Value} (h:w.ownsRow base 63 1 v n xs) :
  ∃A c,v=.slice A n c∧n≤c∧c≤maxLen∧w.ownsRow base 63 1 (.slice A 0 c) 0 []∧(A=none→n=0∧c=0):=by
 rcases h.2 with⟨rfl,rfl⟩ | ⟨g,cap,cur,rfl,hb,hg,hn,hm,hs,_⟩
 ·exact⟨none,0,rfl,C3 _,by unfold maxLen;omega,World.ownsRow_nil _ _ _ _,fun _=>⟨rfl,rfl⟩⟩
 ·exact⟨_,cap,rfl,hn,hm,⟨by simp,.inr ⟨g,cap,cur,rfl,hb,hg,E3 _,hm,hs,by simp⟩⟩,fun h=>by cases h⟩
theorem A9G (i0:TypeInfo) (hi:Tryz.prog.info? 63=some i0) (hz:i0.zero=some (.slice none 0 0)):∀w,(zeroValue 63).run Tryz.prog w=.ok (.slice none 0 0) w:=fun w=>by
 simp[zeroValue,typeInfo,hi,hz]
def A7I (T:Nat→Prop) (base:Nat) (tv:Value) (w:World) (m:List (List Vl)) (E:Ending) (w':World):Prop :=
 ∃A c us,E=.returned (.slice A m.length c)∧w'.ownsRow base 63 1 (.slice A m.length c) m.length us∧(∀(i:Nat) (r:List Vl),m[i]?=some r→∃u,us[i]?=some u∧RowOn T w u r)∧Keeps (fun k=>tv.ownBlock≠some k) w w' ∧
  ((Value.slice A m.length c).ownBlock=tv.ownBlock∨∃g,(Value.slice A m.length c).ownBlock=some g∧w.heap.size≤g)
theorem A7z {w:World} {base c:Nat} {G:Option Addr} (h:w.ownsRow base 63 1 (.slice G 0 c) 0 []) :
  (G=none∧c=0)∨∃g cl,G=some ⟨g,0,none⟩∧base≤g∧c≤maxLen∧Lies w g 63 cl∧cl.length=c:=by
 rcases h.2 with⟨hv,_⟩ | ⟨g,cap,cur,hv,hb,hg,_,hm,hs,_⟩
 ·cases hv;exact .inl ⟨rfl,rfl⟩
 ·cases hv;exact .inr ⟨g,cur.toList,rfl,hb,hm,by simpa[Lies]using hg,by simpa using hs⟩
def A08 (T:Nat→Prop) (w:World) (a b:List (List Vl)) (L k:Nat) (cl:List Value):Prop :=
 ∀j,j<L→∃u,cl[j]?=some u∧RowOn T w u (if j<k then Mt.pick a b j else Mt.row b j)
theorem A5u {T:Nat→Prop} {w:World} {a b:List (List Vl)} {L:Nat} {cl vb:List Value} {bv:Value} (h:RwsIn T w bv vb b) :
  A08 T w a b L 0 (splice (List.replicate L (.slice none 0 0)++cl.drop L) 0 vb):=by
 intro j hj
 rw[if_neg (by omega)]
 have hl:=h.len
 by_cases hb:j<b.length
 ·obtain⟨u,hu,hr⟩:=h.row j _ (Mt.row_mem hb);refine⟨u,?_,hr⟩;unfold splice
  rw[F8,F1,F2 (by omega)]
  exact hu
 ·refine⟨.slice none 0 0,?_,by rw[Mt.row_out (by omega)];exact RowOn.nil T w⟩
  unfold splice
  rw[F8,F1,E8 (by omega),List.getElem?_drop,F2 (by simp;omega),List.getElem?_replicate,if_pos (by omega)]
theorem A8b {T:Nat→Prop} {w:World} {a b:List (List Vl)} {L k:Nat} {cl:List Value} {u:Value} (h:A08 T w a b L k cl) (hl:L≤cl.length) (hr:RowOn T w u (Mt.row a k)) (hne:¬(Mt.row a k).length=0) :
  A08 T w a b L (k+1) (cl.set k u):=by
 intro j hj
 by_cases e:j=k
 ·subst e
  refine⟨u,by rw[List.getElem?_set_self (by omega)],?_⟩
  rw[if_pos (by omega)]
  unfold Mt.pick;rw[if_neg hne];exact hr
 ·obtain⟨u',h1,h2⟩:=h j hj
  refine⟨u',by rw[List.getElem?_set_ne (by omega)];exact h1,?_⟩
  by_cases g:j<k
  ·rw[if_pos (by omega)];rw[if_pos g]at h2;exact h2
  ·rw[if_neg (by omega)];rw[if_neg g]at h2;exact h2
theorem A6K {T:Nat→Prop} {w:World} {a b:List (List Vl)} {L k:Nat} {cl:List Value} (h:A08 T w a b L k cl) (he:(Mt.row a k).length=0):A08 T w a b L (k+1) cl:=by
 intro j hj;obtain⟨u',h1,h2⟩:=h j hj;refine⟨u',h1,?_⟩
 by_cases e:j=k
 ·subst e
  rw[if_neg (by omega)]at h2
  rw[if_pos (by omega)]
  unfold Mt.pick;rw[if_pos he];exact h2
 ·by_cases g:j<k
  ·rw[if_pos (by omega)];rw[if_pos g]at h2;exact h2
  ·rw[if_neg (by omega)];rw[if_neg g]at h2;exact h2
theorem A0S {S:Nat→Prop} {w w1 w2:World} {g:Nat} (h:Keeps S w w1) (k:Keeps (fun k=>k≠g) w1 w2) (hg:∀k,k<w.heap.size→S k→k≠g):Keeps S w w2 :=
 ⟨k.os.trans h.os,k.tape.trans h.tape,k.output.trans h.output,D5 h.size k.size,fun j hj hs=>(k.same j (C9 hj h.size) (hg j hj hs)).trans (h.same j hj hs)⟩
theorem A8t {T:Nat→Prop} {base g c L:Nat} {tv:Value} {w wr:World} {a b:List (List Vl)} {cl:List Value} (hl:Lies wr g 63 cl) (hc:cl.length=c) (hcm:c≤maxLen) (hb:base≤g) (hL:L≤c) (hp:A08 T w a b L a.length cl) (hk:Keeps (fun k=>tv.ownBlock≠some k) w wr)
  (hm:(Mt.merge a b).length=L) (hw:tv.ownBlock=some g∨w.heap.size≤g) :
  A7I T base tv w (Mt.merge a b) (.returned (.slice (some ⟨g,0,none⟩) L c)) wr:=by
 refine⟨_,c,cl.take L,by rw[hm],⟨?_,.inr ⟨g,c,cl.toArray,rfl,hb,hl,by rw[hm];exact hL,hcm,by simpa using hc,by rw[hm,Nat.mul_one]⟩⟩,fun i r hi=>?_,hk,hw.imp (fun h=>h.symm) fun h=>⟨g,rfl,h⟩⟩
 ·rw[hm,E4];omega
 ·have hi2:i<L:=by rw[←hm];exact(D8.1 hi).1
  obtain⟨u,h1,h2⟩:=hp i hi2
  rw[Mt.merge_at a b (by rw[←Mt.merge_length,hm];exact hi2)]at hi
  cases hi
  refine⟨u,by rw[List.getElem?_take_of_lt hi2];exact h1,?_⟩
  by_cases e:i<a.length
  ·rw[if_pos e]at h2;exact h2
  ·rw[if_neg e]at h2;unfold Mt.pick
   rw[Mt.row_out (show a.length≤i by omega)]
   exact h2
theorem A61 (T:Nat→Prop) (base n0:Nat) (tv av bv:Value) (xs:List Value) (a b:List (List Vl)) (w:World) (hown:w.ownsRow base 63 1 tv n0 xs) (hbase:base≤w.heap.size)
  (ha:RwsOn T w av a) (hb:RwsOn T w bv b) (hT:∀k,tv.ownBlock=some k→¬T k) (hla:a.length≤1000) (hlb:b.length≤1000) :
  Calls Tryz.prog 199 #[tv,av,bv] w (A7I T base tv w (Mt.merge a b)):=by
 obtain⟨i0,hi,hz0,hz1,hz2⟩:=info_parts Tryz.infoRow13;obtain⟨A,c,rfl,hn0,hcm,hbare,hA⟩:=A9x hown;obtain⟨A1,c1,rfl,_⟩:=ha.form;obtain⟨A2,c2,rfl,_⟩:=hb.form;have ML:=Mt.merge_length a b;obtain⟨n,hn⟩:∃n,n=a.length:=⟨_,rfl⟩;obtain⟨m,hm⟩:∃m,m=b.length:=⟨_,rfl⟩;rw[←hn]at ha hla ML ⊢;rw[←hm]at hb hlb ML ⊢
 have hc63:c≤9223372036854775807:=by unfold maxLen at hcm;omega
 have cg:=A7c base (max n m) c A w (by omega) hbare hbase
 have HA:=J1 ha;have HB:=J1 hb;have HT:=J1 hT;have HN:=J1 (J0 hn (J0 hm ML));clear hn hm ML ha hb hT hown hbare hcm
 have hmx:max n m≤1000:=by omega
 obtain⟨L,hL⟩:∃L,L=max n m:=⟨_,rfl⟩;rw[←hL]at cg hmx;rw[←hL]at HN
 have hnL:n≤L:=by omega
 have hmL:m≤L:=by omega
 have HA0:=J1 hA;have HAF:=J1 (J0 hnL hmL)
 rcases(show(n<m∧L=m)∨(¬n<m∧L=n) by omega)with⟨hnm,hLe⟩ | ⟨hnm,hLe⟩
 all_goals
  first | subst m | subst n
  clear hL hnL hmL hA;go_enter Tryz.func199,Tryz.ntmps199;go_wp2_with fail;refine cg.mono ?_;rintro E w1 ⟨G,c3,rfl,hown1,hc3,hb1,hwh⟩;clear cg
  rcases A7z hown1 with⟨rfl,rfl⟩ | ⟨g,cl,rfl,hbg,hcm1,hg,hcl⟩
  ·have hL0:L=0:=by omega
   first
    | (exfalso;omega)
    | (obtain rfl : m = 0 := by have := HAF.out; omega
       have hres := J1 (show A7I T base (.slice A n0 c) w (Mt.merge a b) (.returned (.slice none 0 0)) w1 from by
         have hml : (Mt.merge a b).length = 0 := by rw [HN.out.2.2, hL0]
         refine ⟨none, 0, [], by rw [hml], by rw [hml]; exact World.ownsRow_nil _ _ _ _, fun i r hi => ?_, N4 hb1, ?_⟩
         · rw [D6 hml] at hi; simp at hi
         · rcases hwh with h | ⟨g', h, hge⟩
           · exact .inl (by cases A <;> exact h)
           · cases h)
       have hcl := fun (ty : TypeId) (W : World) => (show (Builtin.clear_ #[33] ty #[()]).run Tryz.prog W = .ok (.tuple #[]) W by simp [Builtin.clear_, run_underlying Tryz.underlying33])
       have hcp := fun (ty : TypeId) (W : World) => run_copy_none (P := Tryz.prog) W 33 33 ty 63 none A2 0 0 0 c2 Tryz.underlying33 (by rw [hi]; exact congrArg some hz1) rfl
       clear hwh hown1 HAF HN
       subst hL0
       go_wp2_with fail
       go_loopw [26] (fun i wr => i = .int .i64 0 ∧ w1 = wr) (fun _ _ => 0)
       case atStart => exact ⟨rfl, rfl⟩
       case round =>
         obtain ⟨rfl, rfl⟩ := hrel
         go_wp2_with fail
         go_ret
         exact hres.out)
  ·have hc363:c3≤9223372036854775807:=by unfold maxLen at hcm1;omega
   obtain⟨vb,hvb⟩:=HB.out;have HVB:=J1 hvb;have HG:=J1 (J0 hg hcl)
   have hwh2:(Value.slice A n0 c).ownBlock=some g∨w.heap.size≤g:=by
    rcases hwh with h | ⟨g',h,hge⟩
    ·exact .inl (by cases A <;> exact h.symm)
    ·change some g=some g' at h;cases h;exact .inr hge
   have HOWN:=J1 (J0 hbg (J0 hcm1 hwh2));have HB1:=J1 hb1
   have hL3:(L:Int)≤(c3:Int):=by omega
   have hL3':¬((c3:Int)<(L:Int)):=by omega
   clear hown1 hbg hg hcm1 hcl hvb hb1 hwh hwh2
   go_wp2_with (first
    | (refine A09 _ rfl _ _ rfl 63 (.slice none 0 0) Tryz.underlying33 (A9G i0 hi hz0) rfl rfl g L c3 rfl cl 63 HG.out.1 (by have:=HG.out.2;omega) ?_))
   intro w2 hg2 hk2 _
   have hne:∀k,k<w.heap.size→(Value.slice A n0 c).ownBlock≠some k→k≠g:=fun k hk hs e=>by
    subst e
    rcases HOWN.out.2.2 with h | h
    ·exact hs h
    ·omega
   have HNE:=J1 hne;have HK2:=J1 (A0S (N4 (S:=fun k=>(Value.slice A n0 c).ownBlock≠some k) HB1.out) hk2 hne);have hvb2:=HVB.out.keep HK2.out fun k _ h e=>HT.out k e h;have HVB2:=J1 hvb2;have HG2:=J1 hg2;clear hg2 hk2 hvb2 hne
   have hlen2:(List.replicate L (Value.slice none 0 0)++cl.drop L).length=c3:=by
    rw[C6,List.length_replicate,List.length_drop];have:=HG.out.2;omega
   have HL2:=J1 hlen2;clear hlen2
   go_wp2_with (first
    | (refine X5 _ rfl _ _ _ _ rfl 63 1 Tryz.underlying33 (by rw[hi];exact congrArg some hz1) (some ⟨g,0,none⟩) A2 L c3 L c2 rfl rfl g 0 _ 63 HG2.out b.length (by have:=HAF.out;have:=HN.out.2.1;show _=min _ _;omega) vb (by have:=HVB.out.len;have:=HN.out.2.1;omega) (fun h0=>⟨rfl,HVB2.out.sl.src h0⟩) (by decide) (by have:=HL2.out;have:=HAF.out;have:=HVB.out.len;have:=HN.out.2.1;omega) HVB.out.ones ?_)
    | (refine X5 _ rfl _ _ _ _ rfl 63 1 Tryz.underlying33 (by rw[hi];exact congrArg some hz1) (some ⟨g,0,none⟩) A2 L c3 m c2 rfl rfl g 0 _ 63 HG2.out b.length (by have:=HAF.out;have:=HN.out.2.1;show _=min _ _;omega) vb (by have:=HVB.out.len;have:=HN.out.2.1;omega) (fun h0=>⟨rfl,HVB2.out.sl.src h0⟩) (by decide) (by have:=HL2.out;have:=HAF.out;have:=HVB.out.len;have:=HN.out.2.1;omega) HVB.out.ones ?_))
   intro w3 hg3 hk3 _;have HK3:=J1 (A0S HK2.out hk3 HNE.out)
   have hlen3:=length_splice _ 0 vb (show 0+vb.length≤(List.replicate L (Value.slice none 0 0)++cl.drop L).length by have:=HL2.out;have:=HAF.out;have:=HVB.out.len;have:=HN.out.2.1;omega)
   have hp3:=A5u (a:=a) (cl:=cl) (L:=L) HVB.out;obtain⟨c0,hc0⟩:∃l,l=splice (List.replicate L (Value.slice none 0 0)++cl.drop L) 0 vb:=⟨_,rfl⟩;rw[←hc0]at hg3 hlen3 hp3
   have HS:=J1 (show Lies w3 g 63 c0∧c0.length=c3∧A08 T w a b L 0 c0 from⟨hg3,by rw[hlen3];exact HL2.out,hp3⟩)
   clear hg3 hk3 hlen3 hp3 hc0 HL2 HG2 HVB2 HK2 HG;go_wp2_with fail
   go_loopw [26] (fun i wr=>∃(k:Nat) (cl:List Value),k≤a.length∧k≤1000∧i=.int .i64 k∧Hid (Lies wr g 63 cl∧cl.length=c3∧A08 T w a b L k cl)∧Hid (Keeps (fun k=>(Value.slice A n0 c).ownBlock≠some k) w wr)) (fun i _=>1000-(intOf i).toNat)
   case atStart=>exact⟨0,c0,by omega,by omega,rfl,HS,HK3⟩
   case round =>
    obtain⟨k,cl',hkl,hk1,rfl,HC,HK⟩:=hrel
    by_cases hlt:k<a.length
    ·have hk2:k<1000:=by have:=HN.out.1;omega
     obtain⟨b1,o1,p1,B1,d1,rfl,_,y0,hrow⟩:=HA.out.at_keep HK.out (fun k h e=>HT.out k e h) (Mt.row_mem hlt)
     have i1:(0:Int)≤(k:Int):=by omega
     try have i2:(k:Int)<(n:Int):=by have:=HN.out.1;omega
     have i3:(k:Int)<(L:Int):=by have:=HN.out.1;have:=HAF.out;omega
     have hkc:k<c3:=by omega
     obtain⟨z1,y1⟩:∃z,wr.cell? ⟨g,k,none⟩=some z:=⟨_,HC.out.1.cell (i:=k) (A8 (show k<cl'.length by rw[HC.out.2.1];exact hkc))⟩
     have hk3:=J1 (show k+1≤a.length by omega)
     have y2:=HC.out.1.free k;obtain⟨rl,hrl⟩:∃n,n=(Mt.row a k).length:=⟨_,rfl⟩;rw[←hrl]at y0 hrow;have hset:=HC.out.1.set k (.slice B1 rl d1)
     by_cases h0:rl=0
     ·have hp2:=A6K HC.out.2.2 (hrl.symm.trans h0);have HC2:=J1 (J0 HC.out.1 (J0 HC.out.2.1 hp2))
      have i4:¬((rl:Int)>0):=by omega
      clear hset hp2 hrow hrl h0 y1 y2 hlt hkc;go_wp2_with fail
      go_roundw
      case rel=>exact⟨k+1,_,hk3.out,by omega,by go_num,HC2,HK⟩
      case measure=>simp[intOf];omega
     ·have hp2:=A8b HC.out.2.2 (by rw[HC.out.2.1];exact hc3) hrow (by rw[←hrl];exact h0)
      have HC2:=J1 (show Lies (wr.setCell ⟨g,k,none⟩ (.slice B1 rl d1)) g 63 (cl'.set k (.slice B1 rl d1))∧(cl'.set k (.slice B1 rl d1)).length=c3∧_ from J0 hset (J0 (by rw[List.length_set];exact HC.out.2.1) hp2))
      have HK2:=J1 (A0S HK.out (X2 wr ⟨g,k,none⟩ (.slice B1 rl d1)) HNE.out)
      have i4:(rl:Int)>0:=by omega
      clear hset hp2 hrow hrl h0 hlt hkc;go_wp2_with fail
      go_roundw
      case rel=>exact⟨k+1,_,hk3.out,by omega,by go_num,HC2,HK2⟩
      case measure=>simp[intOf];omega
    ·have hke:k=a.length:=by omega
     have hres:=J1 (A8t HC.out.1 HC.out.2.1 HOWN.out.2.1 HOWN.out.1 hc3 (by have h:=HC.out.2.2;rw[hke]at h;exact h) HK.out HN.out.2.2 HOWN.out.2.2)
     first
      | have i2:¬((k:Int)<(n:Int)):=by have:=HN.out.1;omega
      | have i2:¬((k:Int)<(L:Int)):=by have:=HN.out.1;omega
     clear hke hlt;go_wp2_with fail;go_ret;exact hres.out
def MergedN (w:World) (t:List (List Vl)) (E:Ending) (w':World):Prop :=
 ∃A c,E=.returned (.slice A t.length c)∧RwsOn (fun k=>w.heap.size≤k) w' (.slice A t.length c) t∧Below w w w'
structure Clo13 (T:Nat→Prop) (w w1 wr:World) (g c:Nat) (m:List (List Vl)) (k:Nat) (cl:List Value):Prop where
 lies:Lies wr g 63 cl
 len:cl.length=c
 new:∀j,j<k→∃u,cl[j]?=some u∧RowOn (fun b=>w1.heap.size≤b) wr u (Mt.row m j)
 old:∀j,k≤j→j<m.length→∃u,cl[j]?=some u∧RowOn T w u (Mt.row m j)
 kept:Keeps (fun b=>b≠g) w1 wr
theorem A8I {T:Nat→Prop} {w w1 wr w2:World} {g c k:Nat} {m:List (List Vl)} {cl:List Value} {u:Value} (h:Clo13 T w w1 wr g c m k cl) (hg:g<w1.heap.size) (hk:k<m.length) (hm:m.length≤c) (hb:Below wr wr w2) (hu:RowOn (fun b=>wr.heap.size≤b) w2 u (Mt.row m k)) :
  Clo13 T w w1 (w2.setCell ⟨g,k,none⟩ u) g c m (k+1) (cl.set k u):=by
 have hs:=h.kept.size;have hl2:Lies w2 g 63 cl:=h.lies.below hb h.lies.lt;have kp2:Keeps (fun b=>b≠g) w2 (w2.setCell ⟨g,k,none⟩ u):=X2 w2 ⟨g,k,none⟩ u
 refine⟨hl2.set k u,by rw[List.length_set];exact h.len,fun j hj=>?_,fun j hj hj2=>?_,?_⟩
 ·by_cases e:j=k
  ·subst e
   exact⟨u,List.getElem?_set_self (by rw[h.len];omega),(hu.keep kp2 fun b _ hb2 e2=>by omega).mono fun b _ hb2=>by omega⟩
  ·obtain⟨u',h1,h2⟩:=h.new j (by omega)
   exact⟨u',by rw[List.getElem?_set_ne (by omega)];exact h1,(h2.below hb (C3 _)).keep kp2 fun b _ hb2 e2=>by omega⟩
 ·obtain⟨u',h1,h2⟩:=h.old j (by omega) hj2
  exact⟨u',by rw[List.getElem?_set_ne (by omega)];exact h1,h2⟩
 ·exact(h.kept.trans (N4 hb)).trans kp2
theorem A3o (T:Nat→Prop) (av bv:Value) (a b:List (List Vl)) (w:World) (ha:RwsOn T w av a) (hb:RwsOn T w bv b) (hla:a.length≤1000) (hlb:b.length≤1000) (ha2:∀x∈a,x.length≤1000000) (hb2:∀x∈b,x.length≤1000000) :
  Calls Tryz.prog 196 #[av,bv] w (MergedN w (Mt.merge a b)):=by
 have cl:=A61 T w.heap.size 0 (.slice none 0 0) av bv [] a b w (World.ownsRow_nil _ _ _ _) (C3 _) ha hb (fun k h=>by cases h) hla hlb
 have hml:=Mt.merge_length a b;have hmm:=Mt.merge_mem ha2 hb2;obtain⟨A1,c1,rfl,_⟩:=ha.form;obtain⟨A2,c2,rfl,_⟩:=hb.form;obtain⟨m,hm⟩:∃m,m=Mt.merge a b:=⟨_,rfl⟩;rw[←hm]at cl hml hmm ⊢
 have hm1:m.length≤1000:=by omega
 clear hm hml ha hb ha2 hb2;generalize a.length=la at *;generalize b.length=lb at *;go_enter Tryz.func196,Tryz.ntmps196;go_wp2_with fail;refine cl.mono ?_;rintro E w1 ⟨G,c,us,rfl,hown,hus,hk1,_⟩;clear cl
 have hb1:Below w w w1:=⟨hk1.os,hk1.tape,hk1.output,hk1.size,fun k hk=>hk1.same k hk (by simp[Value.ownBlock])⟩
 have hul:=hown.1
 rcases hown.2 with⟨hv,h0⟩ | ⟨g,cap,cur,hv,hbg,hg,hn1,hcm,hcs,htk⟩
 ·obtain⟨rfl,rfl⟩:G=none∧c=0:=by injection hv with e1 _ e3;exact⟨e1,e3⟩
  have hm0:=D6 h0;subst hm0
  have hres:=J1 (show MergedN w [] (.returned (.slice none 0 0)) w1 from⟨none,0,rfl,RwsOn.nil _ _,hb1⟩)
  clear hown hus hk1 hb1 hul hv h0 hmm;go_wp2_with fail
  go_loopw [13] (fun i wr=>i=.int .i64 0∧w1=wr) (fun _ _=>0)
  case atStart=>exact⟨rfl,rfl⟩
  case round =>
   obtain⟨rfl,rfl⟩:=hrel;go_wp2_with fail;go_ret;exact hres.out
 ·obtain⟨rfl,rfl⟩:G=some ⟨g,0,none⟩∧c=cap:=by cases hv;exact⟨rfl,rfl⟩
  have hcur:∀j,j<m.length→cur.toList[j]?=us[j]?:=fun j hj=>by rw[←htk,List.getElem?_take_of_lt (by omega)]
  have hst:Clo13 T w w1 w1 g c m 0 cur.toList:=⟨by simpa[Lies]using hg,by simpa using hcs,fun j hj=>by omega,fun j _ hj=>by
   obtain⟨u,h1,h2⟩:=hus j _ (Mt.row_mem hj)
   exact⟨u,by rw[hcur j hj];exact h1,h2⟩,Keeps.refl _ _⟩
  obtain⟨c0,hc0⟩:∃c0,c0=cur.toList:=⟨_,rfl⟩;rw[←hc0]at hst;have hglt:g<w1.heap.size:=(D9.1 hg).1;have HST:=J1 hst;have HM:=J1 hmm;have HB1:=J1 hb1;have hlc:m.length≤c:=hn1
  have hc63:c≤9223372036854775807:=by unfold maxLen at hcm;omega
  obtain⟨L,hL⟩:∃n,n=m.length:=⟨_,rfl⟩;rw[←hL]at hm1 hlc ⊢;have HL:=J1 hL;have HBG:=J1 hbg;clear hbg hst hg hv hown hus hcur htk hcs hn1 hcm hk1 hb1 hmm hul hc0 hL cur;go_wp2_with fail
  go_loopw [13] (fun i wr=>∃(k:Nat) (cl:List Value),k≤L∧i=.int .i64 k∧Hid (Clo13 T w w1 wr g c m k cl)) (fun i _=>L-(intOf i).toNat)
  case atStart=>exact⟨0,c0,by omega,rfl,HST⟩
  case round =>
   obtain⟨k,cl',hk,rfl,HC⟩:=hrel
   by_cases hlt:k<L
   ·obtain⟨u,hcu,hru⟩:=HC.out.old k (C3 _) (by rw[←HL.out];exact hlt)
    obtain⟨B,d,rfl,hd⟩:=hru.form
    have hru2:=(((hru.mono (S:=fun k=>k<w.heap.size) fun _ h _=>h).below HB1.out (C3 _)).keep HC.out.kept fun b _ h e=>by have:=HBG.out;omega).at_
    have hrl:(Mt.row m k).length≤1000000:=HM.out _ (C8 (Mt.row_mem (by rw[←HL.out];exact hlt)))
    have cc:=A3G _ (Mt.row m k) wr hru2 hrl
    have i1:(0:Int)≤(k:Int):=by omega
    have i2:(k:Int)<(L:Int):=by omega
    have hkc:k<c:=by omega
    have y1:=HC.out.lies.cell (i:=k) hcu
    have HKL:=J1 (show k<m.length by rw[←HL.out];exact hlt)
    have hglr:=HC.out.lies.lt;obtain⟨rl,hrl'⟩:∃n,n=(Mt.row m k).length:=⟨_,rfl⟩;rw[←hrl']at y1 cc;clear hcu hru hru2 hrl hrl';go_wp2_with fail;refine cc.mono ?_;rintro E w2 ⟨A3,d3,rfl,hr3,hb3⟩
    have HN3:=J1 (A8I HC.out hglt HKL.out (by rw[←HL.out];exact hlc) hb3 hr3)
    have y2:=(HC.out.lies.below hb3 hglr).cell (i:=k) (A8 (show k<cl'.length by rw[HC.out.len];exact hkc))
    obtain⟨z2,y2⟩:∃z,w2.cell? ⟨g,k,none⟩=some z:=⟨_,y2⟩;have y3:=(HC.out.lies.below hb3 hglr).free k;obtain⟨rl2,hrl2⟩:∃n,n=(Mt.row m k).length:=⟨_,rfl⟩;rw[←hrl2]at HN3 ⊢;clear cc y1 hb3 hr3 hrl2 hglr;go_wp2_with fail
    go_roundw
    case rel=>exact⟨k+1,_,by omega,by go_num,HN3⟩
    case measure=>simp[intOf];omega
   ·have hkL:k=L:=by omega
    have hres:=J1 (show MergedN w m (.returned (.slice (some ⟨g,0,none⟩) L c)) wr from by
     have HCo:=HC.out;have hs:=HCo.kept.size;have hs1:=HB1.out.size
     refine⟨_,c,by rw[←HL.out],?_,?_⟩
     ·rw[←HL.out]
      refine⟨cl'.take L,⟨_,c,by rw[E4,HCo.len];congr 1;omega,by rw[E4,HCo.len];omega,fun j u hj=>?_⟩,by rw[E4,HCo.len,←HL.out];omega,fun j r hj=>?_⟩
      ·have hj2:j<L:=by have:=(D8.1 hj).1;rw[E4]at this;omega
       rw[List.getElem?_take_of_lt hj2]at hj;refine⟨g,0,none,rfl,HBG.out,HCo.lies.lt,?_⟩
       have e:((⟨g,0,none⟩:Addr).add j)=⟨g,j,none⟩:=by
        unfold Addr.add
        split <;> simp_all
       rw[e];exact HCo.lies.cell hj
      ·have hj2:j<L:=by rw[HL.out];exact(D8.1 hj).1
       obtain⟨u,h1,h2⟩:=HCo.new j (by omega)
       rw[Mt.row_at hj]at h2
       exact⟨u,by rw[List.getElem?_take_of_lt hj2];exact h1,h2.mono fun b _ h=>by omega⟩
     ·exact HB1.out.trans (HCo.kept.below hs1 fun b hb e=>by have:=HBG.out;omega))
    have i2:¬((k:Int)<(L:Int)):=by omega
    clear hkL hlt;go_wp2_with fail;go_ret;exact hres.out
end Go.Proofs.YtbddhkgbpjhhaaaGreatDoor
