/-
  LAID TOGETHER, BY PROGRAM, of: Iter, Itr, Itq, App.
-/
import Derived.Test.YtbddhkgbpjhhaaaGreatDoorGBase
import Derived.RangeFuncNested
import Derived.RangeFuncBound
import Derived.RangeFuncCalls
import Derived.RangeFuncLeaves
import Derived.Shelf.Abstract
import Derived.Shelf.RegionOpen
import Derived.WalkKit
import Derived.OwnWalkIn
import Derived.TacticsInMore
import Derived.LoopNIn
import Derived.LoopIn
import Derived.Deep.Onto
import Derived.ArgAppend
import Derived.Maps.RangeWalk
namespace Go.Proofs.YtbddhkgbpjhhaaaGreatDoor
open Go Go.RowKit
structure Keeps (S:Nat→Prop) (W W':World):Prop where
 os:W'.os=W.os
 tape:W'.tape=W.tape
 output:W'.output=W.output
 size:W.heap.size≤W'.heap.size
 same:∀k,k<W.heap.size→S k→W'.heap[k]?=W.heap[k]?
theorem Keeps.refl (S:Nat→Prop) (W:World):Keeps S W W:=⟨rfl,rfl,rfl,C3 _,fun _ _ _=>rfl⟩
theorem Keeps.trans {S:Nat→Prop} {A B C:World} (h:Keeps S A B) (k:Keeps S B C):Keeps S A C :=
 ⟨k.os.trans h.os,k.tape.trans h.tape,k.output.trans h.output,D5 h.size k.size,fun j hj hs=>(k.same j (C9 hj h.size) hs).trans (h.same j hj hs)⟩
theorem Keeps.mono {S T:Nat→Prop} {A B:World} (h:Keeps S A B) (ht:∀k,T k→S k):Keeps T A B:=⟨h.os,h.tape,h.output,h.size,fun j hj hs=>h.same j hj (ht j hs)⟩
theorem Keeps.alloc (S:Nat→Prop) (W:World) (o:Obj):Keeps S W (W.alloc o):=⟨rfl,rfl,rfl,by simp,fun k hk _=>Below.heap_alloc W o k hk⟩
theorem Keeps.putObj {S:Nat→Prop} (W:World) (l:Nat) (o:Obj) (h:¬S l):Keeps S W (W.putObj l o) :=
 ⟨rfl,rfl,rfl,by simp,fun k _ hs=>World.putObj_heap_other (fun e=>h (e ▸ hs))⟩
theorem Keeps.below {S:Nat→Prop} {W W':World} {B:Nat} (h:Keeps S W W') (hB:B≤W.heap.size) (hS:∀k,k<B→S k):Below B W W' :=
 ⟨h.os,h.tape,h.output,h.size,fun k hk=>h.same k (C9 hk hB) (hS k hk)⟩
structure Chg (O:Nat→Prop) (W:World) (O':Nat→Prop) (W':World):Prop where
 keeps:Keeps (fun k=>¬O k) W W'
 own:∀k,k<W.heap.size→O' k→O k
theorem Chg.trans {O O' O'':Nat→Prop} {A B C:World} (h:Chg O A O' B) (k:Chg O' B O'' C):Chg O A O'' C :=
 ⟨⟨k.keeps.os.trans h.keeps.os,k.keeps.tape.trans h.keeps.tape,k.keeps.output.trans h.keeps.output,D5 h.keeps.size k.keeps.size,
  fun j hj hn=>(k.keeps.same j (C9 hj h.keeps.size) (fun h'=>hn (h.own j hj h'))).trans (h.keeps.same j hj hn)⟩,
  fun j hj h'=>h.own j hj (k.own j (C9 hj h.keeps.size) h')⟩
def sepPost {α:Type} (I:List α→(Nat→Prop)→World→Prop) (Ix:Code→List α→(Nat→Prop)→World→Prop) (xs:List α) (O:Nat→Prop) (W:World):Exit→Act→World→Prop
 | .normal,_,W'=>∃O',I xs O' W'∧Chg O W O' W'
 | .ret,_,W'=>∃O',Ix .ret xs O' W'∧Chg O W O' W'
 | .exit id,_,W'=>∃O',Ix (.exit id) xs O' W'∧Chg O W O' W'
 | .goto t,_,W'=>∃O',Ix (.goto t) xs O' W'∧Chg O W O' W'
 | .panic _,_,_=>False
 | .outgrown,_,_=>False
variable {F:Fence} {n:Nat} {P:Program}
end Go.Proofs.YtbddhkgbpjhhaaaGreatDoor
namespace Go.Proofs.YtbddhkgbpjhhaaaGreatDoor
open Go Go.RowKit
def StableS {β:Type} (S:Nat→Prop) (J:β→(Nat→Prop)→World→Prop):Prop :=
 ∀s O W W',J s O W→Keeps (fun k=>O k∨S k) W W'→J s O W'
def IterR {α:Type} (F:Fence) (n:Nat) (P:Program) (g:Nat) (lb:Array Value) (R:Nat→(Nat→Prop)→World→α→Array Value→Prop) (C:Nat→Prop) (S:Nat→Nat→Prop) (Pre:World→Prop) (xs:List α):Prop :=
 ∀(l:Nat) (J Jx:List α→(Nat→Prop)→World→Prop) (W:World) (O:Nat→Prop),Pre W→StableS (S W.heap.size) J→StableS (S W.heap.size) Jx →
  (∀pre O' W',J pre O' W'→∀k,O' k→k<W'.heap.size∧¬C k) →
  (∀pre x v O1 W1,J pre O1 W1→pre++[x] <+: xs→R W.heap.size O1 W1 x v→YieldAt F (n-1) P l v W1 fun e W' =>
   (e=.returned (.bool true)∧∃O',J (pre++[x]) O' W'∧Chg O1 W1 O' W')∨(e=.returned (.bool false)∧∃O',Jx (pre++[x]) O' W'∧Chg O1 W1 O' W')) →
  J [] O W →
  CallsIn F n P g (#[.func (.yield l) #[] #[]]++lb) W fun e W'=>(∃v,e=.returned v)∧((∃O',J xs O' W')∨(∃pre O',pre <+: xs∧Jx pre O' W'))
variable {F:Fence} {n:Nat} {P:Program}
theorem A0o {α:Type} {g:Operand} {ps:Array Tmp} {assign body:Code} {Q:Exit→Act→World→Prop} {a:Act} {w:World}
  (hro:F.round=none) (h1:1≤n) {gf:Nat} {lb:Array Value} (hg:a.eval g=.func (.func gf) #[] lb) (hFg:F.fn gf) (eg:∀args w,(callFunc gf args).run P w=.ok (.enter gf args) w)
  {R:Nat→(Nat→Prop)→World→α→Array Value→Prop} {C:Nat→Prop} {S:Nat→Nat→Prop} {Pre:World→Prop} {xs:List α} (hseq:IterR F (n-1) P gf lb R C S Pre xs)
  (hpre:∀W,Below w w W→Pre W) (hC:∀k,C k→k<w.heap.size) (hps:∀B O W x v,R B O W x v→v.size=ps.size)
  (hR:∀(O O':Nat→Prop) (W W':World) x v,O (w.heap.size+1)→(∀k,O' k→O k)→Keeps (fun k=>k≠w.heap.size+1) W W'→R (w.heap.size+2) O W x v→R (w.heap.size+2) O' W' x v)
  (I:List α→(Nat→Prop)→World→Prop) (Ix:Code→List α→(Nat→Prop)→World→Prop) (hI:StableS (fun k=>S (w.heap.size+2) k∧k≠w.heap.size∧k≠w.heap.size+1) I) (hIx:∀c,StableS (fun k=>S (w.heap.size+2) k∧k≠w.heap.size∧k≠w.heap.size+1) (Ix c))
  (hSD:∀k,k=w.heap.size∨k=w.heap.size+1→S (w.heap.size+2) k)
  (hIO:∀pre O W,I pre O W→∀k,O k→k<W.heap.size∧¬C k) (O:Nat→Prop) (hO:∀k,O k→k<w.heap.size) (h0:I [] O w) (Ax:(Nat→Prop)→World→α→Array Value→Act→Prop)
  (hAx:∀(O:Nat→Prop) (W W':World) x v a',Keeps (fun k=>k≠w.heap.size+1) W W'→Ax O W x v a'→Ax O W' x v a')
  (hassign:∀(l:Nat) (x:α) (v:Array Value) (O:Nat→Prop) (W:World) (K:Act→World→Prop),w.heap.size+2≤W.heap.size→(∀k,O k→k<W.heap.size)→R (w.heap.size+2) O W x v→(∀a' W',Keeps (fun _=>True) W W'→Ax O W' x v a'→K a' W') →
   assign.wpIn (F.inRound l) (n-1-1) P (Exit.then K (fun _ _ _=>False)) { tmps:=(ps.zip v).foldl (fun t (p,v)=>t.setIfInBounds p v) a.tmps,defers:=[] } W)
  (hbody:∀(l:Nat) (pre:List α) (x:α) (v:Array Value) (O:Nat→Prop) (W:World) (a':Act),w.heap.size≤l→I pre O W→pre++[x] <+: xs→R (w.heap.size+2) O W x v→Ax O W x v a'→body.wpIn (F.inRound l) (n-1-1) P (sepPost I Ix (pre++[x]) O W) a' W)
  (hdone:∀(D:Nat) (O:Nat→Prop) (W:World),D=w.heap.size→I xs O W→¬O D→W.heap[D]?=some (.deferred (some []))→Q .normal { a with defers:={ target:=.collected D,args:=#[] }::a.defers } W)
  (hstop:∀(D:Nat) (c:Code) (pre:List α) (O:Nat→Prop) (W:World),D=w.heap.size→pre <+: xs→Ix c pre O W→¬O D→W.heap[D]?=some (.deferred (some []))→c.wpIn F n P Q { a with defers:={ target:=.collected D,args:=#[] }::a.defers } W) :
  (Code.rangeFunc g ps assign body).wpIn F n P Q a w:=by
 refine wpIn_rangeFunc ?_;intro fn hfn;rw[hro]
 let D:=w.heap.size
 let L:=w.heap.size+1
 obtain⟨rec,hrec⟩:∃rec:LoopState→Option Code→Loop,rec=fun st pe=>{ state:=st,pending:=pe,fn,tmps:=a.tmps,params:=ps,assign,body,defers:=w.heap.size }:=⟨_,rfl⟩;obtain⟨W1,hW1⟩:∃W1,(w.alloc (.deferred (some []))).alloc (.loop (rec .ready none))=W1:=⟨_,rfl⟩
 have hsz:W1.heap.size=w.heap.size+2:=by rw[←hW1];simp
 have hL1:W1.heap[L]?=some (.loop (rec .ready none)):=by
  rw[←hW1];have:=World.alloc_heap_new (w.alloc (.deferred (some []))) (.loop (rec .ready none));rwa[J2]at this
 have hD1:W1.heap[D]?=some (.deferred (some [])):=by
  rw[←hW1];exact(Below.heap_alloc _ _ _ (by simp[D])).trans (World.alloc_heap_new w _)
 have hk1:∀S,Keeps S w W1:=fun S=>by rw[←hW1];exact(Keeps.alloc S w _).trans (Keeps.alloc S _ _)
 have hb1:Below w w W1:=(hk1 (fun _=>True)).below (C3 _) (fun _ _=>trivial)
 refine⟨L,[{ target:=.collected w.heap.size,args:=#[] }],W1,{ target:=.fn (.func gf) lb,args:=#[.func (.yield L) #[] #[]] },W1,gf,
  #[.func (.yield L) #[] #[]]++lb,W1,?_,?_,?_,?_,fun _=>h1,?_⟩
 ·rw[←hW1,hrec];exact run_enterLoop_outer _ _ _ _ _
 ·simp only[resolve,hg]
  simp[go_sem]
 ·intro f' hf';simp[Target.leads]at hf';subst hf';exact hFg
 ·simp[invoke,go_sem,eg]
 ·
  let J:List α→(Nat→Prop)→World→Prop:=fun pre O W=>∃O0,(∀k,O k↔(O0 k∨k=L))∧I pre O0 W∧¬O0 D∧¬O0 L∧W.heap[L]?=some (.loop (rec .ready none))∧W.heap[D]?=some (.deferred (some []))
  let Jx:List α→(Nat→Prop)→World→Prop:=fun pre O W=>∃O0 c,(∀k,O k↔(O0 k∨k=L))∧Ix c pre O0 W∧¬O0 D∧¬O0 L∧W.heap[L]?=some (.loop (rec .done (some c)))∧W.heap[D]?=some (.deferred (some []))
  have hkeep:∀{O O0:Nat→Prop} {A B:World},(∀k,O k↔(O0 k∨k=L))→Keeps (fun k=>O k∨S W1.heap.size k) A B→Keeps (fun k=>O0 k∨(S (w.heap.size+2) k∧k≠w.heap.size∧k≠w.heap.size+1)) A B :=
   fun he hk=>hk.mono (fun k hh=>by rcases hh with hh | hh;exact .inl ((he k).2 (.inl hh));exact .inr (by rw[hsz];exact hh.1))
  refine(hseq L J Jx W1 (fun k=>O k∨k=L) (hpre _ hb1) ?_ ?_ ?_ ?_ ?_).mono ?_
  ·rintro s O' A B ⟨O0,he,hi,hd,hl,hrl,hrd⟩ hk
   exact⟨O0,he,hI _ _ _ _ hi (hkeep he hk),hd,hl,(hk.same L (D9.1 hrl).1 (.inr (by rw[hsz];exact hSD _ (.inr rfl)))).trans hrl,(hk.same D (D9.1 hrd).1 (.inr (by rw[hsz];exact hSD _ (.inl rfl)))).trans hrd⟩
  ·rintro s O' A B ⟨O0,c,he,hi,hd,hl,hrl,hrd⟩ hk
   exact⟨O0,c,he,hIx c _ _ _ _ hi (hkeep he hk),hd,hl,(hk.same L (D9.1 hrl).1 (.inr (by rw[hsz];exact hSD _ (.inr rfl)))).trans hrl,(hk.same D (D9.1 hrd).1 (.inr (by rw[hsz];exact hSD _ (.inl rfl)))).trans hrd⟩
  ·rintro pre O' W' ⟨O0,he,hi,hd,hl,hrl,hrd⟩ k hk
   rcases(he k).1 hk with hk | hk
   ·exact hIO _ _ _ hi k hk
   ·subst hk
    exact⟨(D9.1 hrl).1,fun hc=>by have:=hC _ hc;simp[L]at this;omega⟩
  ·
   rintro pre x v O1 Wy ⟨O0,he,hi,hd,hl,hrl,hrd⟩ hpx hrv;rw[hsz]at hrv;have hrvy:=hrv;have hlt:L<Wy.heap.size:=(D9.1 hrl).1
   have hy:=run_yield (P:=P) (args:=v) hrl (by rw[hrec];exact hps _ _ _ _ _ hrv)
   rw[hrec]at hy;have hO0:∀k,O0 k→k<Wy.heap.size:=fun k hk=>(hIO _ _ _ hi k hk).1;have hsy:w.heap.size+2≤Wy.heap.size:=hlt;have hn0:∀(W':World),Keeps (fun _=>True) Wy W'→R (w.heap.size+2) O0 W' x v:=fun W' hk=>hR _ _ _ _ _ _ ((he _).2 (.inr rfl)) (fun k hk=>(he k).2 (.inl hk)) (hk.mono fun _ _=>trivial) hrv;refine⟨fn,_,assign,body,hy,roundIn_of_wpIn hfn (hassign _ x v O0 Wy _ hsy hO0 (hn0 Wy (Keeps.refl _ _)) ?_)⟩;clear hy;intro a' W hkW hax;replace hi:I pre O0 W:=hI _ _ _ _ hi (hkW.mono fun _ _=>trivial);replace hrl:W.heap[L]?=some (.loop (rec .ready none)):=(hkW.same L hlt trivial).trans hrl
   replace hrd:W.heap[D]?=some (.deferred (some [])):=(hkW.same D (by simp[L,D]at hlt ⊢;omega) trivial).trans hrd
   have hlt:L<W.heap.size:=C9 hlt hkW.size
   refine⟨_,run_beginRound hrl (by rw[hrec]),?_⟩
   obtain⟨W2,hW2⟩:∃W2,W.putObj L (.loop { rec .ready none with state:=.busy })=W2:=⟨_,rfl⟩
   rw[hW2]
   have hl2:W2.heap[L]?=some (.loop { rec .ready none with state:=.busy }):=by rw[←hW2];exact World.putObj_heap_same hlt
   have hd2:W2.heap[D]?=some (.deferred (some [])):=by rw[←hW2];exact(World.putObj_heap_other (by simp[L,D])).trans hrd
   have hkp:Keeps (fun k=>O0 k∨(S (w.heap.size+2) k∧k≠w.heap.size∧k≠w.heap.size+1)) W W2:=by rw[←hW2];exact Keeps.putObj W L _ (by rintro(hh | hh);exact hl hh;exact hh.2.2 rfl)
   have hs2:W2.heap.size=W.heap.size:=by rw[←hW2];simp
   have hkn0:Keeps (fun k=>k≠L) W W2:=by rw[←hW2];exact Keeps.putObj W L _ (fun hh=>hh rfl)
   have hkn:Keeps (fun k=>k≠L) Wy W2:=(hkW.mono fun _ _=>trivial).trans hkn0
   have hsyw:Wy.heap.size≤W2.heap.size:=by rw[hs2];exact hkW.size
   refine wpIn_mono (hbody L pre x v O0 W2 a' (by simp[L]) (hI _ _ _ _ hi hkp) hpx (hR _ _ _ _ _ _ ((he _).2 (.inr rfl)) (fun k hk=>(he k).2 (.inl hk)) hkn hrvy) (hAx _ _ _ _ _ _ hkn0 hax)) ?_
   -- behind the body
   have fin:∀(jump:Option Code) (O3:Nat→Prop) (W3:World),Chg O0 W2 O3 W3 →
     ∃W4,(Instr.endRound L jump).run P W3=.ok (.bool jump.isNone) W4∧¬O3 D∧¬O3 L∧Keeps (fun k=>O3 k∨(S (w.heap.size+2) k∧k≠w.heap.size∧k≠w.heap.size+1)) W3 W4 ∧
     W4.heap[L]?=some (.loop (rec (if jump.isNone then .ready else .done) jump))∧W4.heap[D]?=some (.deferred (some []))∧Chg O1 Wy (fun k=>O3 k∨k=L) W4:=fun jump O3 W3 hc=>by
    have h3l:W3.heap[L]?=some (.loop { rec .ready none with state:=.busy }):=(hc.keeps.same L (by omega) hl).trans hl2
    have h3d:W3.heap[D]?=some (.deferred (some [])):=(hc.keeps.same D (by simp[L,D]at hlt ⊢;omega) hd).trans hd2
    have hrun:=run_endRound (P:=P) jump h3l
    have hnd:¬O3 D:=fun h=>hd (hc.own D (by simp[L,D]at hlt ⊢;omega) h)
    have hnl:¬O3 L:=fun h=>hl (hc.own L (by omega) h)
    rw[hrec]at hrun h3l;obtain⟨W4,hW4⟩:∃W4,W3.putObj L (.loop (rec (if jump.isNone then .ready else .done) jump))=W4:=⟨_,rfl⟩;refine⟨W4,?_,hnd,hnl,?_,?_,?_,⟨?_,?_⟩⟩
    ·rw[←hW4,hrec];exact hrun
    ·rw[←hW4];exact Keeps.putObj W3 L _ (by rintro(hh | hh);exact hnl hh;exact hh.2.2 rfl)
    ·rw[←hW4];exact World.putObj_heap_same (D9.1 h3l).1
    ·rw[←hW4];exact(World.putObj_heap_other (by simp[L,D])).trans h3d
    ·have k34:Keeps (fun k=>k≠L) W3 W4:=by rw[←hW4];exact Keeps.putObj W3 L _ (fun hh=>hh rfl)
     exact((hkn.mono (fun k hk e=>hk ((he k).2 (.inr e)))).trans ((hc.keeps.mono (fun k hk h=>hk ((he k).2 (.inl h)))).trans (k34.mono (fun k hk e=>hk ((he k).2 (.inr e))))))
    ·intro k hk hO
     rcases hO with hO | hO
     ·exact(he k).2 (.inl (hc.own k (by omega) hO))
     ·exact(he k).2 (.inr hO)
   rintro e a3 W3 hp
   cases e with
   | normal =>
    obtain⟨O3,hi3,hc3⟩:=hp;obtain⟨W4,hr,hnd,hnl,hk4,hl4,hd4,hc4⟩:=fin none O3 W3 hc3;exact⟨_,_,hr,.inl ⟨rfl,_,⟨O3,fun _=>Iff.rfl,hI _ _ _ _ hi3 hk4,hnd,hnl,hl4,hd4⟩,hc4⟩⟩
   | ret =>
    obtain⟨O3,hi3,hc3⟩:=hp;obtain⟨W4,hr,hnd,hnl,hk4,hl4,hd4,hc4⟩:=fin (some .ret) O3 W3 hc3;exact⟨_,_,hr,.inr ⟨rfl,_,⟨O3,.ret,fun _=>Iff.rfl,hIx _ _ _ _ _ hi3 hk4,hnd,hnl,hl4,hd4⟩,hc4⟩⟩
   | exit id =>
    obtain⟨O3,hi3,hc3⟩:=hp;obtain⟨W4,hr,hnd,hnl,hk4,hl4,hd4,hc4⟩:=fin (some (.exit id)) O3 W3 hc3;exact⟨_,_,hr,.inr ⟨rfl,_,⟨O3,.exit id,fun _=>Iff.rfl,hIx _ _ _ _ _ hi3 hk4,hnd,hnl,hl4,hd4⟩,hc4⟩⟩
   | goto t =>
    obtain⟨O3,hi3,hc3⟩:=hp;obtain⟨W4,hr,hnd,hnl,hk4,hl4,hd4,hc4⟩:=fin (some (.goto t)) O3 W3 hc3;exact⟨_,_,hr,.inr ⟨rfl,_,⟨O3,.goto t,fun _=>Iff.rfl,hIx _ _ _ _ _ hi3 hk4,hnd,hnl,hl4,hd4⟩,hc4⟩⟩
   | panic ch=>exact hp.elim
   | outgrown=>exact hp.elim
  ·exact⟨O,fun _=>Iff.rfl,hI _ _ _ _ h0 (hk1 _),fun h=>by have:=hO _ h;simp[D]at this,fun h=>by have:=hO _ h;simp[L]at this;omega,hL1,hD1⟩
  ·
   rintro e W2 ⟨⟨v,rfl⟩,(⟨O',O0,he,hi,hd,hl,hrl,hrd⟩ | ⟨pre,O',hpx,O0,c,he,hi,hd,hl,hrl,hrd⟩)⟩
   ·have hend:=run_endLoop (P:=P) hrl (by rw[hrec];simp)
    rw[hrec]at hend
    exact⟨none,_,hend,hdone D O0 _ rfl (hI _ _ _ _ hi (Keeps.putObj _ _ _ (by rintro(hh | hh);exact hl hh;exact hh.2.2 rfl))) hd ((World.putObj_heap_other (by simp[L,D])).trans hrd)⟩
   ·have hend:=run_endLoop (P:=P) hrl (by rw[hrec];simp)
    rw[hrec]at hend
    exact⟨some c,_,hend,hstop D c pre O0 _ rfl hpx (hIx c _ _ _ _ hi (Keeps.putObj _ _ _ (by rintro(hh | hh);exact hl hh;exact hh.2.2 rfl))) hd ((World.putObj_heap_other (by simp[L,D])).trans hrd)⟩
theorem A0q {a b l l2:Nat} {P:Program} {f:FuncId} {tmps:Array Value} {assign body:Code} {w:World} {R:Ending→World→Prop} (h:RoundIn Fence.wide a P l f tmps assign body w R) :
  RoundIn (Fence.wide.inRound l2) b P l f tmps assign body w R:=⟨trivial,fun c cs _=>h.2 c cs (room_wide _)⟩
theorem A1z {a b l:Nat} {P:Program} {f:FuncId} {tmps:Array Value} {assign body:Code} {w:World} {R:Ending→World→Prop} (h:RoundIn Fence.wide a P l f tmps assign body w R) :
  RoundIn Fence.wide b P l f tmps assign body w R:=⟨trivial,fun c cs _=>h.2 c cs (room_wide _)⟩
theorem Keeps.cell {S:Nat→Prop} {W W':World} {b o:Nat} {v:Value} (h:Keeps S W W') (hs:S b) (hc:W.cell? ⟨b,o,none⟩=some v):W'.cell? ⟨b,o,none⟩=some v:=by
 have hlt:=block_lt_of_cell hc;rw[World.cell?_of_block (a:=⟨b,o,none⟩) (h.same b hlt hs)];exact hc
end Go.Proofs.YtbddhkgbpjhhaaaGreatDoor
namespace Go.Proofs.YtbddhkgbpjhhaaaGreatDoor
open Go Go.RowKit
variable {F:Fence} {n:Nat} {P:Program}
structure ChgFrom (B:Nat) (O:Nat→Prop) (W:World) (O':Nat→Prop) (W':World):Prop where
 keeps:Keeps (fun k=>¬O k∧k<B) W W'
 own:∀k,k<B→O' k→O k
def sepFrom {α:Type} (B:Nat) (I:List α→(Nat→Prop)→World→Prop) (Ix:Code→List α→(Nat→Prop)→World→Prop) (xs:List α) (O:Nat→Prop) (W:World):Exit→Act→World→Prop
 | .normal,_,W'=>∃O',I xs O' W'∧ChgFrom B O W O' W'
 | .ret,_,W'=>∃O',Ix .ret xs O' W'∧ChgFrom B O W O' W'
 | .exit id,_,W'=>∃O',Ix (.exit id) xs O' W'∧ChgFrom B O W O' W'
 | .goto t,_,W'=>∃O',Ix (.goto t) xs O' W'∧ChgFrom B O W O' W'
 | .panic _,_,_=>False
 | .outgrown,_,_=>False
theorem Z8 {α:Type} {g:Operand} {ps:Array Tmp} {assign body:Code} {Q:Exit→Act→World→Prop} {a:Act} {w:World}
  (hro:F.round=none) (h1:1≤n) {gf:Nat} {lb:Array Value} (hg:a.eval g=.func (.func gf) #[] lb) (hFg:F.fn gf) (eg:∀args w,(callFunc gf args).run P w=.ok (.enter gf args) w)
  {R:Nat→(Nat→Prop)→World→α→Array Value→Prop} {C:Nat→Prop} {S:Nat→Nat→Prop} {Pre:World→Prop} {xs:List α} (hseq:IterR F (n-1) P gf lb R C S Pre xs)
  (hpre:∀W,Below w w W→w.heap.size+2≤W.heap.size→Pre W) (hC:∀k,C k→k<w.heap.size) (hps:∀B O W x v,R B O W x v→v.size=ps.size)
  (hR:∀(O O':Nat→Prop) (W W':World) x v,O (w.heap.size+1)→(∀k,O' k→O k)→Keeps (fun k=>k≠w.heap.size+1) W W'→R (w.heap.size+2) O W x v→R (w.heap.size+2) O' W' x v)
  (I:List α→(Nat→Prop)→World→Prop) (Ix:Code→List α→(Nat→Prop)→World→Prop) (hI:StableS (fun k=>S (w.heap.size+2) k∧k≠w.heap.size∧k≠w.heap.size+1) I) (hIx:∀c,StableS (fun k=>S (w.heap.size+2) k∧k≠w.heap.size∧k≠w.heap.size+1) (Ix c))
  (hSD:∀k,k=w.heap.size∨k=w.heap.size+1→S (w.heap.size+2) k)
  (hIO:∀pre O W,I pre O W→∀k,O k→k<W.heap.size∧¬C k) (O:Nat→Prop) (hO:∀k,O k→k<w.heap.size) (h0:I [] O w) (Ax:Nat→(Nat→Prop)→World→α→Array Value→Act→Prop)
  (hAx:∀(B0:Nat) (O:Nat→Prop) (W W':World) x v a',Keeps (fun k=>k≠w.heap.size+1) W W'→Ax B0 O W x v a'→Ax B0 O W' x v a')
  (hassign:∀(l:Nat) (x:α) (v:Array Value) (O:Nat→Prop) (W:World) (K:Act→World→Prop),w.heap.size+2≤W.heap.size→(∀k,O k→k<W.heap.size)→R (w.heap.size+2) O W x v→(∀a' W',Keeps (fun _=>True) W W'→Ax W.heap.size O W' x v a'→K a' W') →
   assign.wpIn (F.inRound l) (n-1-1) P (Exit.then K (fun _ _ _=>False)) { tmps:=(ps.zip v).foldl (fun t (p,v)=>t.setIfInBounds p v) a.tmps,defers:=[] } W)
  (hbody:∀(Wy:World) (l:Nat) (pre:List α) (x:α) (v:Array Value) (O:Nat→Prop) (W:World) (a':Act),w.heap.size≤l→I pre O Wy→I pre O W→pre++[x] <+: xs→R (w.heap.size+2) O W x v→(∀k,O k→k<Wy.heap.size)→w.heap.size+2≤Wy.heap.size→Keeps (fun k=>k≠w.heap.size+1) Wy W→Ax Wy.heap.size O W x v a'→body.wpIn (F.inRound l) (n-1-1) P (sepFrom Wy.heap.size I Ix (pre++[x]) O W) a' W)
  (hdone:∀(D:Nat) (O:Nat→Prop) (W:World),D=w.heap.size→I xs O W→¬O D→W.heap[D]?=some (.deferred (some []))→Q .normal { a with defers:={ target:=.collected D,args:=#[] }::a.defers } W)
  (hstop:∀(D:Nat) (c:Code) (pre:List α) (O:Nat→Prop) (W:World),D=w.heap.size→pre <+: xs→Ix c pre O W→¬O D→W.heap[D]?=some (.deferred (some []))→c.wpIn F n P Q { a with defers:={ target:=.collected D,args:=#[] }::a.defers } W) :
  (Code.rangeFunc g ps assign body).wpIn F n P Q a w:=by
 refine wpIn_rangeFunc ?_;intro fn hfn;rw[hro]
 let D:=w.heap.size
 let L:=w.heap.size+1
 obtain⟨rec,hrec⟩:∃rec:LoopState→Option Code→Loop,rec=fun st pe=>{ state:=st,pending:=pe,fn,tmps:=a.tmps,params:=ps,assign,body,defers:=w.heap.size }:=⟨_,rfl⟩;obtain⟨W1,hW1⟩:∃W1,(w.alloc (.deferred (some []))).alloc (.loop (rec .ready none))=W1:=⟨_,rfl⟩
 have hsz:W1.heap.size=w.heap.size+2:=by rw[←hW1];simp
 have hL1:W1.heap[L]?=some (.loop (rec .ready none)):=by
  rw[←hW1];have:=World.alloc_heap_new (w.alloc (.deferred (some []))) (.loop (rec .ready none));rwa[J2]at this
 have hD1:W1.heap[D]?=some (.deferred (some [])):=by
  rw[←hW1];exact(Below.heap_alloc _ _ _ (by simp[D])).trans (World.alloc_heap_new w _)
 have hk1:∀S,Keeps S w W1:=fun S=>by rw[←hW1];exact(Keeps.alloc S w _).trans (Keeps.alloc S _ _)
 have hb1:Below w w W1:=(hk1 (fun _=>True)).below (C3 _) (fun _ _=>trivial)
 refine⟨L,[{ target:=.collected w.heap.size,args:=#[] }],W1,{ target:=.fn (.func gf) lb,args:=#[.func (.yield L) #[] #[]] },W1,gf,
  #[.func (.yield L) #[] #[]]++lb,W1,?_,?_,?_,?_,fun _=>h1,?_⟩
 ·rw[←hW1,hrec];exact run_enterLoop_outer _ _ _ _ _
 ·simp only[resolve,hg]
  simp[go_sem]
 ·intro f' hf';simp[Target.leads]at hf';subst hf';exact hFg
 ·simp[invoke,go_sem,eg]
 ·
  let J:List α→(Nat→Prop)→World→Prop:=fun pre O W=>∃O0,(∀k,O k↔(O0 k∨k=L))∧I pre O0 W∧¬O0 D∧¬O0 L∧W.heap[L]?=some (.loop (rec .ready none))∧W.heap[D]?=some (.deferred (some []))
  let Jx:List α→(Nat→Prop)→World→Prop:=fun pre O W=>∃O0 c,(∀k,O k↔(O0 k∨k=L))∧Ix c pre O0 W∧¬O0 D∧¬O0 L∧W.heap[L]?=some (.loop (rec .done (some c)))∧W.heap[D]?=some (.deferred (some []))
  have hkeep:∀{O O0:Nat→Prop} {A B:World},(∀k,O k↔(O0 k∨k=L))→Keeps (fun k=>O k∨S W1.heap.size k) A B→Keeps (fun k=>O0 k∨(S (w.heap.size+2) k∧k≠w.heap.size∧k≠w.heap.size+1)) A B :=
   fun he hk=>hk.mono (fun k hh=>by rcases hh with hh | hh;exact .inl ((he k).2 (.inl hh));exact .inr (by rw[hsz];exact hh.1))
  refine(hseq L J Jx W1 (fun k=>O k∨k=L) (hpre _ hb1 (Nat.le_of_eq hsz.symm)) ?_ ?_ ?_ ?_ ?_).mono ?_
  ·rintro s O' A B ⟨O0,he,hi,hd,hl,hrl,hrd⟩ hk
   exact⟨O0,he,hI _ _ _ _ hi (hkeep he hk),hd,hl,(hk.same L (D9.1 hrl).1 (.inr (by rw[hsz];exact hSD _ (.inr rfl)))).trans hrl,(hk.same D (D9.1 hrd).1 (.inr (by rw[hsz];exact hSD _ (.inl rfl)))).trans hrd⟩
  ·rintro s O' A B ⟨O0,c,he,hi,hd,hl,hrl,hrd⟩ hk
   exact⟨O0,c,he,hIx c _ _ _ _ hi (hkeep he hk),hd,hl,(hk.same L (D9.1 hrl).1 (.inr (by rw[hsz];exact hSD _ (.inr rfl)))).trans hrl,(hk.same D (D9.1 hrd).1 (.inr (by rw[hsz];exact hSD _ (.inl rfl)))).trans hrd⟩
  ·rintro pre O' W' ⟨O0,he,hi,hd,hl,hrl,hrd⟩ k hk
   rcases(he k).1 hk with hk | hk
   ·exact hIO _ _ _ hi k hk
   ·subst hk
    exact⟨(D9.1 hrl).1,fun hc=>by have:=hC _ hc;simp[L]at this;omega⟩
  ·
   rintro pre x v O1 Wy ⟨O0,he,hi,hd,hl,hrl,hrd⟩ hpx hrv;rw[hsz]at hrv;have hrvy:=hrv;have hlt:L<Wy.heap.size:=(D9.1 hrl).1
   have hy:=run_yield (P:=P) (args:=v) hrl (by rw[hrec];exact hps _ _ _ _ _ hrv)
   rw[hrec]at hy;have hO0:∀k,O0 k→k<Wy.heap.size:=fun k hk=>(hIO _ _ _ hi k hk).1;have hsy:w.heap.size+2≤Wy.heap.size:=hlt;have hn0:∀(W':World),Keeps (fun _=>True) Wy W'→R (w.heap.size+2) O0 W' x v:=fun W' hk=>hR _ _ _ _ _ _ ((he _).2 (.inr rfl)) (fun k hk=>(he k).2 (.inl hk)) (hk.mono fun _ _=>trivial) hrv;refine⟨fn,_,assign,body,hy,roundIn_of_wpIn hfn (hassign _ x v O0 Wy _ hsy hO0 (hn0 Wy (Keeps.refl _ _)) ?_)⟩;clear hy;intro a' W hkW hax;have hiY:=hi;replace hi:I pre O0 W:=hI _ _ _ _ hi (hkW.mono fun _ _=>trivial);replace hrl:W.heap[L]?=some (.loop (rec .ready none)):=(hkW.same L hlt trivial).trans hrl
   replace hrd:W.heap[D]?=some (.deferred (some [])):=(hkW.same D (by simp[L,D]at hlt ⊢;omega) trivial).trans hrd
   have hltY:=hlt;have hlt:L<W.heap.size:=C9 hlt hkW.size
   refine⟨_,run_beginRound hrl (by rw[hrec]),?_⟩
   obtain⟨W2,hW2⟩:∃W2,W.putObj L (.loop { rec .ready none with state:=.busy })=W2:=⟨_,rfl⟩
   rw[hW2]
   have hl2:W2.heap[L]?=some (.loop { rec .ready none with state:=.busy }):=by rw[←hW2];exact World.putObj_heap_same hlt
   have hd2:W2.heap[D]?=some (.deferred (some [])):=by rw[←hW2];exact(World.putObj_heap_other (by simp[L,D])).trans hrd
   have hkp:Keeps (fun k=>O0 k∨(S (w.heap.size+2) k∧k≠w.heap.size∧k≠w.heap.size+1)) W W2:=by rw[←hW2];exact Keeps.putObj W L _ (by rintro(hh | hh);exact hl hh;exact hh.2.2 rfl)
   have hs2:W2.heap.size=W.heap.size:=by rw[←hW2];simp
   have hkn0:Keeps (fun k=>k≠L) W W2:=by rw[←hW2];exact Keeps.putObj W L _ (fun hh=>hh rfl)
   have hkn:Keeps (fun k=>k≠L) Wy W2:=(hkW.mono fun _ _=>trivial).trans hkn0
   have hsyw:Wy.heap.size≤W2.heap.size:=by rw[hs2];exact hkW.size
   refine wpIn_mono (hbody Wy L pre x v O0 W2 a' (by simp[L]) hiY (hI _ _ _ _ hi hkp) hpx (hR _ _ _ _ _ _ ((he _).2 (.inr rfl)) (fun k hk=>(he k).2 (.inl hk)) hkn hrvy) hO0 hsy hkn (hAx _ _ _ _ _ _ _ hkn0 hax)) ?_
   -- behind the body
   have fin:∀(jump:Option Code) (O3:Nat→Prop) (W3:World),ChgFrom Wy.heap.size O0 W2 O3 W3 →
     ∃W4,(Instr.endRound L jump).run P W3=.ok (.bool jump.isNone) W4∧¬O3 D∧¬O3 L∧Keeps (fun k=>O3 k∨(S (w.heap.size+2) k∧k≠w.heap.size∧k≠w.heap.size+1)) W3 W4 ∧
     W4.heap[L]?=some (.loop (rec (if jump.isNone then .ready else .done) jump))∧W4.heap[D]?=some (.deferred (some []))∧Chg O1 Wy (fun k=>O3 k∨k=L) W4:=fun jump O3 W3 hc=>by
    have h3l:W3.heap[L]?=some (.loop { rec .ready none with state:=.busy }):=(hc.keeps.same L (by omega) ⟨hl,hltY⟩).trans hl2
    have h3d:W3.heap[D]?=some (.deferred (some [])):=(hc.keeps.same D (by simp[L,D]at hlt ⊢;omega) ⟨hd,by simp[L,D]at hltY ⊢;omega⟩).trans hd2
    have hrun:=run_endRound (P:=P) jump h3l
    have hnd:¬O3 D:=fun h=>hd (hc.own D (by simp[L,D]at hltY ⊢;omega) h)
    have hnl:¬O3 L:=fun h=>hl (hc.own L hltY h);rw[hrec]at hrun h3l;obtain⟨W4,hW4⟩:∃W4,W3.putObj L (.loop (rec (if jump.isNone then .ready else .done) jump))=W4:=⟨_,rfl⟩;refine⟨W4,?_,hnd,hnl,?_,?_,?_,⟨?_,?_⟩⟩
    ·rw[←hW4,hrec];exact hrun
    ·rw[←hW4];exact Keeps.putObj W3 L _ (by rintro(hh | hh);exact hnl hh;exact hh.2.2 rfl)
    ·rw[←hW4];exact World.putObj_heap_same (D9.1 h3l).1
    ·rw[←hW4];exact(World.putObj_heap_other (by simp[L,D])).trans h3d
    ·have k34:Keeps (fun k=>k≠L) W3 W4:=by rw[←hW4];exact Keeps.putObj W3 L _ (fun hh=>hh rfl)
     exact⟨k34.os.trans (hc.keeps.os.trans hkn.os),k34.tape.trans (hc.keeps.tape.trans hkn.tape),k34.output.trans (hc.keeps.output.trans hkn.output),D5 hsyw (D5 hc.keeps.size k34.size),fun k hk hs =>
      (k34.same k (C9 hk (D5 hsyw hc.keeps.size)) (fun e=>hs ((he k).2 (.inr e)))).trans ((hc.keeps.same k (C9 hk hsyw) ⟨fun h=>hs ((he k).2 (.inl h)),hk⟩).trans (hkn.same k hk (fun e=>hs ((he k).2 (.inr e)))))⟩
    ·intro k hk hO
     rcases hO with hO | hO
     ·exact(he k).2 (.inl (hc.own k hk hO))
     ·exact(he k).2 (.inr hO)
   rintro e a3 W3 hp
   cases e with
   | normal =>
    obtain⟨O3,hi3,hc3⟩:=hp;obtain⟨W4,hr,hnd,hnl,hk4,hl4,hd4,hc4⟩:=fin none O3 W3 hc3;exact⟨_,_,hr,.inl ⟨rfl,_,⟨O3,fun _=>Iff.rfl,hI _ _ _ _ hi3 hk4,hnd,hnl,hl4,hd4⟩,hc4⟩⟩
   | ret =>
    obtain⟨O3,hi3,hc3⟩:=hp;obtain⟨W4,hr,hnd,hnl,hk4,hl4,hd4,hc4⟩:=fin (some .ret) O3 W3 hc3;exact⟨_,_,hr,.inr ⟨rfl,_,⟨O3,.ret,fun _=>Iff.rfl,hIx _ _ _ _ _ hi3 hk4,hnd,hnl,hl4,hd4⟩,hc4⟩⟩
   | exit id =>
    obtain⟨O3,hi3,hc3⟩:=hp;obtain⟨W4,hr,hnd,hnl,hk4,hl4,hd4,hc4⟩:=fin (some (.exit id)) O3 W3 hc3;exact⟨_,_,hr,.inr ⟨rfl,_,⟨O3,.exit id,fun _=>Iff.rfl,hIx _ _ _ _ _ hi3 hk4,hnd,hnl,hl4,hd4⟩,hc4⟩⟩
   | goto t =>
    obtain⟨O3,hi3,hc3⟩:=hp;obtain⟨W4,hr,hnd,hnl,hk4,hl4,hd4,hc4⟩:=fin (some (.goto t)) O3 W3 hc3;exact⟨_,_,hr,.inr ⟨rfl,_,⟨O3,.goto t,fun _=>Iff.rfl,hIx _ _ _ _ _ hi3 hk4,hnd,hnl,hl4,hd4⟩,hc4⟩⟩
   | panic ch=>exact hp.elim
   | outgrown=>exact hp.elim
  ·exact⟨O,fun _=>Iff.rfl,hI _ _ _ _ h0 (hk1 _),fun h=>by have:=hO _ h;simp[D]at this,fun h=>by have:=hO _ h;simp[L]at this;omega,hL1,hD1⟩
  ·
   rintro e W2 ⟨⟨v,rfl⟩,(⟨O',O0,he,hi,hd,hl,hrl,hrd⟩ | ⟨pre,O',hpx,O0,c,he,hi,hd,hl,hrl,hrd⟩)⟩
   ·have hend:=run_endLoop (P:=P) hrl (by rw[hrec];simp)
    rw[hrec]at hend
    exact⟨none,_,hend,hdone D O0 _ rfl (hI _ _ _ _ hi (Keeps.putObj _ _ _ (by rintro(hh | hh);exact hl hh;exact hh.2.2 rfl))) hd ((World.putObj_heap_other (by simp[L,D])).trans hrd)⟩
   ·have hend:=run_endLoop (P:=P) hrl (by rw[hrec];simp)
    rw[hrec]at hend
    exact⟨some c,_,hend,hstop D c pre O0 _ rfl hpx (hIx c _ _ _ _ hi (Keeps.putObj _ _ _ (by rintro(hh | hh);exact hl hh;exact hh.2.2 rfl))) hd ((World.putObj_heap_other (by simp[L,D])).trans hrd)⟩
end Go.Proofs.YtbddhkgbpjhhaaaGreatDoor
namespace Go.Proofs.YtbddhkgbpjhhaaaGreatDoor
open Go Go.RowKit
variable {F:Fence} {n:Nat} {P:Program}
theorem V7 (w:World) (base:Nat) (t ty e:TypeId) (i:TypeInfo) (z:Value) (size bytes:Nat) (ht:P.underlying t=some (.slice e)) (hi:P.info? e=some i) (hz:i.zero=some z)
  (hsize:i.size=size) (hby:i.bytes=bytes) (hzs:z.cells.size=size) (hsz:0<size)
  (v:Value) (k:Nat) (xs:List Value) (hown:w.ownsRow base e size v k xs)
  (ad:Addr) (m c:Nat) (news:List Value) (hl:news.length=m*size) (hnews:∀j u,news[j]?=some u→w.cell? (ad.add j)=some u) (h1:∀u∈news,u.oneCell'=true)
  (h63:k+m≤maxLen) (hbytes:(k+m)*bytes≤140737488355328) (hbase:base≤w.heap.size) :
  ∃v' w',(Builtin.append_ #[t,t] ty #[v,.slice (some ad) m c]).run P w=.ok v' w'∧w'.ownsRow base e size v' (k+m) (xs++news)∧w.grownBy w' v.ownBlock ∧
   (v'.ownBlock=v.ownBlock∨∃g,v'.ownBlock=some g∧w.heap.size≤g):=by
 have far:∀{v':Value} {w':World},w'.ownsRow w.heap.size e size v' (k+m) (xs++news)→v'.ownBlock=none∨∃g,v'.ownBlock=some g∧w.heap.size≤g:=fun {v'} {w'} h=>by
  cases ho:v'.ownBlock with
  | none=>exact .inl rfl
  | some g=>exact .inr ⟨g,rfl,(h.lt g ho).1⟩
 rcases hown.2 with⟨rfl,rfl⟩ | ⟨g,cap,cur,rfl,hbg,hg,hnc,hcm,hcs,htake⟩
 ·have hx:xs=[]:=D6 (by simpa using hown.1)
  subst hx;obtain⟨v',w',hr,h2,h3,_⟩:=run_append_own (P:=P) w w.heap.size t ty e i z size bytes ht hi hz hsize hby hzs hsz (.slice none 0 0) 0 [] (World.ownsRow_nil _ _ _ _) ad m c news hl hnews h1 h63 hbytes (C3 _);exact⟨v',w',hr,h2.mono hbase,h3,(far h2).imp (fun h=>h) id⟩
 ·by_cases hroom:k+m≤cap
  ·obtain⟨w',hr,h2,h3⟩:=run_append_fits (P:=P) w base t ty e i size ht hi hsize g k cap xs hown ad m c news hl hnews h1 hroom;exact⟨_,w',hr,h2,h3,.inl rfl⟩
  ·obtain⟨v',w',hr,h2,h3⟩:=run_append_arg_grows (P:=P) w t ty e i z size bytes ht hi hz hsize hby hzs hsz ⟨g,0,none⟩ k cap xs hown.1 (hown.cells (g:=g) rfl) ad m c news hl hnews (by omega) h63 hbytes
   refine⟨v',w',hr,h2.mono hbase,h3.but _,?_⟩
   rcases far h2 with h | h
   ·
    rcases h2.2 with⟨rfl,h0⟩ | ⟨g',cap',cur',rfl,_⟩
    ·omega
    ·cases h
   ·exact .inr h
theorem A0r (w:World) {ops:Array Oper} {rest:List Oper} {o:Oper} {a:Act} {Q:Exit→Act→World→Prop}
  (hg:o.guard=none) (s x:Operand) (t:TypeId) (hop:o.op=Op.call { callee:=Callee.builtin Builtin.append,args:=#[s,x],argTypes:=#[t,t] })
  (base:Nat) (e:TypeId) (i:TypeInfo) (z:Value) (size bytes:Nat) (h1:P.underlying t=some (.slice e)) (h2:P.info? e=some i) (h3:i.zero=some z) (h4:i.size=size) (h5:i.bytes=bytes) (h6:z.cells.size=size) (h7:0<size)
  (v:Value) (k:Nat) (xs:List Value) (hs:a.eval s=v) (hown:w.ownsRow base e size v k xs) (ad:Addr) (m c:Nat) (news:List Value) (hx:a.eval x=.slice (some ad) m c) (hn:news.length=m*size)
  (hc:∀j u,news[j]?=some u→w.cell? (ad.add j)=some u) (h1c:∀u∈news,u.oneCell'=true) (b1:k+m≤maxLen) (b2:(k+m)*bytes≤140737488355328) (b3:base≤w.heap.size)
  (hK:∀v' w',w'.ownsRow base e size v' (k+m) (xs++news)→w.grownBy w' v.ownBlock→(v'.ownBlock=v.ownBlock∨∃g,v'.ownBlock=some g∧w.heap.size≤g)→wpListIn F n P ops Q rest (a.put o.dst v') w') :
  wpListIn F n P ops Q (o::rest) a w:=by
 refine wpListIn_plain hg fun K hK'=>?_;obtain⟨v',w',hrun,r1,r2,r3⟩:=V7 (P:=P) w base t o.type e i z size bytes h1 h2 h3 h4 h5 h6 h7 v k xs hown ad m c news hn hc h1c b1 b2 b3;unfold Oper.wpIn;refine⟨?_,?_⟩
 ·simp[Oper.about,hop,resolve,Target.leads,Sem.run_pure]
 ·rw[Oper.semAt_plain F _ _ (by rw[hop];intro c hc';cases hc')]
  simp[execOp,hop,resolve,invoke,builtin,hs,hx,hrun,Result.andThen]
  exact hK' _ _ (hK v' w' r1 r2 r3)
end Go.Proofs.YtbddhkgbpjhhaaaGreatDoor
