/-
  LAID TOGETHER, BY PROGRAM, of: Mte, Mtf, Mtv, Mtg, Mth, Mti, Mtj.
-/
import Derived.Test.YtbddhkgbpjhhaaaGreatDoorGMtB
import Derived.Test.YtbddhkgbpjhhaaaGreatDoorGOwn
import Derived.Test.YtbddhkgbpjhhaaaGreatDoorGPred
import Derived.Test.YtbddhkgbpjhhaaaGreatDoorGBase
import Derived.Test.YtbddhkgbpjhhaaaGreatDoorGLogs
import Derived.OwnWalk
import Derived.WalkKit
import Derived.WalkSpells
set_option maxHeartbeats 3200000
set_option maxRecDepth 100000
namespace Go.Proofs.YtbddhkgbpjhhaaaGreatDoor
open Go.RowKit Go.Sort
structure Mat (w0 w:World) (gc gl gr:Nat) (cv lv rv:Value):Prop where
 cj:Lies w gc 24 [cv]
 ll:Lies w gl 33 [lv]
 rm:Lies w gr 33 [rv]
 own:∃n xs,w.ownsRow w0.heap.size 63 1 rv n xs
 base:Below w0 w0 w
 new:w0.heap.size≤gc∧w0.heap.size≤gl∧w0.heap.size≤gr
 ne:gc≠gr∧gl≠gr
theorem X8 {w:World} {base n s:Nat} {e t:TypeId} {v:Value} {xs cs:List Value} {g:Nat} (h:w.ownsRow base e s v n xs) (hl:Lies w g t cs) (hne:e≠t):v.ownBlock≠some g:=by
 rcases h.2 with⟨rfl,_⟩ | ⟨g',cap,cur,rfl,_,hg,_⟩
 ·simp[Value.ownBlock]
 ·intro e2
  have e3:g'=g:=by simpa[Value.ownBlock]using e2
  rw[e3]at hg;have h1:w.heap[g]?=some (Obj.cells cur e (0,0)):=hg;unfold Lies at hl;rw[hl]at h1
  injection h1 with h1
  injection h1 with _ h2
  exact hne h2.symm
theorem Lies.keeps {w w':World} {g:Nat} {t:TypeId} {cs:List Value} {S:Nat→Prop} (h:Lies w g t cs) (hk:Keeps S w w') (hs:S g):Lies w' g t cs:=(hk.same g h.lt hs).trans h
theorem Keeps.below0 {S:Nat→Prop} {w0 w w':World} (h:Keeps S w w') (hb:Below w0 w0 w) (hs:∀k,k<w0.heap.size→S k):Below w0 w0 w':=hb.trans (h.below hb.size hs)
def Fitted (w0:World) (gc gl gr:Nat) (cv lv rv:Value) (b:Bool) (w:World) (E:Ending) (w':World):Prop :=
 ∃rv',E=.returned (.bool b)∧Mat w0 w' gc gl gr cv lv rv'∧Keeps (fun k=>k≠gr∧rv.ownBlock≠some k) w w'∧(rv'.ownBlock=rv.ownBlock∨∃g,rv'.ownBlock=some g∧w.heap.size≤g)
theorem A9q {T:Nat→Prop} {w w2:World} {base:Nat} {A:Option Addr} {n c:Nat} {us:List Value} {m:List (List Vl)} (hn:n=m.length) (hown:w2.ownsRow base 63 1 (.slice A n c) n us) (hus:∀(i:Nat) (r:List Vl),m[i]?=some r→∃u,us[i]?=some u∧RowOn T w u r) {S:Nat→Prop} (hk:Keeps S w w2) (hs:∀k,T k→S k):Rws w2 (.slice A n c) m :=
 RwsOn.rws (T:=Al) ⟨us,(SlOn.own hown).mono fun _ _ _=>trivial,by have:=hown.1;omega,fun i r hi=>by
  obtain⟨u,h1,h2⟩:=hus i r hi;exact⟨u,h1,(h2.keep hk fun k _ h=>hs k h).mono fun _ _ _=>trivial⟩⟩
theorem A7h (d:Nat) (w0 w:World) (gc gl gr:Nat) (cv lv rv tv:Value) (ps:List Pd) (l t:List (List Vl)) (hM:Mat w0 w gc gl gr cv lv rv) (hp:PsAt d w0 cv ps) (hsz:Pr.sizes ps≤1000) (hW:Want w0)
  (hl:RwsOn (fun k=>k<w0.heap.size) w0 lv l) (ht:RwsOn (fun k=>k<w0.heap.size) w0 tv t) (hll:l.length≤1000) (htl:t.length≤1000) :
  Calls Tryz.prog 198 #[tv,.pointer (some ⟨gr,0,none⟩),.pointer (some ⟨gl,0,none⟩),.pointer (some ⟨gc,0,none⟩)] w (Fitted w0 gc gl gr cv lv rv (Mt.fits ps l t) w):=by
 obtain⟨n0,xs,hown⟩:=hM.own
 have cl:=A61 (fun k=>k<w0.heap.size) w0.heap.size n0 rv lv tv xs l t w hown hM.base.size (hl.below hM.base (C3 _)) (ht.below hM.base (C3 _)) (fun k h h2=>by have:=(hown.lt k h).1;omega) hll htl
 obtain⟨m,hm⟩:∃m,m=Mt.merge l t:=⟨_,rfl⟩;rw[←hm]at cl
 have hfit:Mt.fits ps l t=decide (Lo.andI (ps.map (Pr.of m))=2):=by rw[hm];rfl
 rw[hfit];obtain⟨z,hz⟩:∃z,z=Lo.andI (ps.map (Pr.of m)):=⟨_,rfl⟩;rw[←hz];have x0:=hM.rm.c 0 rfl;have x1:=hM.ll.c 0 rfl
 have n1:=X8 hown hM.rm (by decide)
 have n2:=X8 hown hM.ll (by decide)
 have n3:=X8 hown hM.cj (by decide)
 have HM:=J1 hM;have HP:=J1 (J0 hp (J0 hsz hW));have HZ:=J1 hz;obtain⟨T1,t1,rfl,_⟩:=ht.form;obtain⟨L1,l1,rfl,_⟩:=hl.form;obtain⟨P1,p1,rfl,_⟩:=hp.form;obtain⟨R1,r1,rfl⟩:=ownsForm hown;clear hm hfit hz hM hp hsz hW hl ht hll htl hown;generalize t.length=tl at *;generalize l.length=ll at *;obtain⟨pl,hpl⟩:∃n,n=ps.length:=⟨_,rfl⟩;rw[←hpl]at HP HM ⊢;clear hpl;have HN:=J1 (J0 n1 (J0 n2 n3));clear n1 n2 n3;go_enter Tryz.func198,Tryz.ntmps198;go_wp2_with fail;refine cl.mono ?_;rintro E w1 ⟨A,c,us,rfl,hown1,hus,hk1,hwh⟩;clear cl x0 x1;obtain⟨n1,n2,n3⟩:=HN.out;obtain⟨W2,hW2⟩:∃W2,W2=w1.setCell ⟨gr,0,none⟩ (.slice A m.length c):=⟨_,rfl⟩;have hgr:Lies w1 gr 33 [.slice R1 n0 r1]:=HM.out.rm.keeps hk1 n1;have hgc:Lies w1 gc 24 [.slice P1 pl p1]:=HM.out.cj.keeps hk1 n3;have hgl:Lies w1 gl 33 [.slice L1 ll l1]:=HM.out.ll.keeps hk1 n2
 have kp:Keeps (fun k=>k≠gr) w1 W2:=by rw[hW2];exact X2 w1 ⟨gr,0,none⟩ _
 have hor1:=X8 hown1 hgr (by decide)
 have hown2:W2.ownsRow w0.heap.size 63 1 (.slice A m.length c) m.length us:=Q9 hown1 kp fun k h e=>hor1 (by rw[h,e])
 have hk2:Keeps (fun k=>k≠gr∧(Value.slice R1 n0 r1).ownBlock≠some k) w W2:=(hk1.mono fun _ h=>h.2).trans (kp.mono fun _ h=>h.1)
 have hMat:Mat w0 W2 gc gl gr (.slice P1 pl p1) (.slice L1 ll l1) (.slice A m.length c):=by
  refine⟨hgc.keeps kp HM.out.ne.1,hgl.keeps kp HM.out.ne.2,by rw[hW2];exact hgr.set 0 _,⟨_,_,hown2⟩,HM.out.base.trans (hk2.below HM.out.base.size fun k hk=>⟨by have:=HM.out.new.2.2;omega,fun e=>?_⟩),HM.out.new,HM.out.ne⟩
  obtain⟨_,_,ho⟩:=HM.out.own;have:=(ho.lt k e).1;omega
 have hrws:=A9q rfl hown2 hus hk2 fun k hk=>⟨by have:=HM.out.new.2.2;omega,fun e=>by
  obtain⟨_,_,ho⟩:=HM.out.own;have:=(ho.lt k e).1;omega⟩
 have ca:=A8c d _ ps _ m W2 (HP.out.1.below hMat.base (C3 _)) HP.out.2.1 hrws (HP.out.2.2.below hMat.base (C3 _));rw[←HZ.out]at ca;have y0:=hgr.c 0 rfl;have y1:=hgr.free 0;have y2:=hgc.c 0 rfl;have y3:¬gc=gr:=HM.out.ne.1;have y4:¬gr=gc:=fun e=>y3 e.symm;have HMat:=J1 hMat;have HK2:=J1 hk2;have HWH:=J1 hwh;have HW2:=J1 hW2;generalize m.length=ml at *;clear hgr hgc hgl kp hor1 hown1 hown2 hk2 hMat hrws hus hk1 hwh hW2 n1 n2 n3 HN
 go_wp2_with (rw[←HW2.out];refine ca.mono ?_)
 rintro E w3 ⟨rfl,hb3⟩
 have HR:=J1 (show ∀b,b=decide (z=2)→Fitted w0 gc gl gr (.slice P1 pl p1) (.slice L1 ll l1) (.slice R1 n0 r1) (decide (z=2)) w (.returned (.bool b)) w3 from fun b hb=>by
  subst hb;have hM:=HMat.out;obtain⟨_,_,ho⟩:=hM.own;have hk:=HK2.out.trans (N4 hb3 (S:=fun k=>k≠gr∧(Value.slice R1 n0 r1).ownBlock≠some k));refine⟨_,rfl,⟨hM.cj.below hb3 hM.cj.lt,hM.ll.below hb3 hM.ll.lt,hM.rm.below hb3 hM.rm.lt,⟨_,_,A1H ho hb3⟩,hM.base.trans (M9 hb3 hM.base.size),hM.new,hM.ne⟩,hk,HWH.out⟩)
 clear ca y0 y1 y2 y3 y4 hb3;go_wp2_with fail;go_ret
 exact HR.out _ (by rfl)
def A3M (w:World) (cv lv:Value) (E:Ending) (w':World):Prop :=
 ∃gc gl gr,E=.returned (.func (.func 198) #[] #[.pointer (some ⟨gr,0,none⟩),.pointer (some ⟨gl,0,none⟩),.pointer (some ⟨gc,0,none⟩)])∧Mat w w' gc gl gr cv lv (.slice none 0 0)
theorem A1J (w:World) (A B:Option Addr) (n c m d:Nat) :
  Calls Tryz.prog 180 #[.slice A n c,.slice B m d] w (A3M w (.slice A n c) (.slice B m d)):=by
 have l1:=Lies.new w 24 [.slice A n c];have l2:=Lies.new (w.alloc (Obj.cells #[.slice A n c] 24)) 33 [.slice B m d];have l3:=Lies.new ((w.alloc (Obj.cells #[.slice A n c] 24)).alloc (Obj.cells #[.slice B m d] 33)) 33 [()]
 have hres:=J1 (show A3M w (.slice A n c) (.slice B m d) (.returned (.func (.func 198) #[] #[.pointer (some ⟨w.heap.size+1+1,0,none⟩),.pointer (some ⟨w.heap.size+1,0,none⟩),.pointer (some ⟨w.heap.size,0,none⟩)])) (((w.alloc (Obj.cells #[.slice A n c] 24)).alloc (Obj.cells #[.slice B m d] 33)).alloc (Obj.cells #[()] 33)) from by
  refine⟨w.heap.size,w.heap.size+1,w.heap.size+1+1,rfl,?_,?_,?_,⟨0,[],World.ownsRow_nil _ _ _ _⟩,?_,⟨by omega,by omega,by omega⟩,⟨by omega,by omega⟩⟩
  ·exact(l1.alloc _).alloc _
  ·have:=l2.alloc (Obj.cells #[()] 33)
   simpa using this
  ·simpa using l3
  ·exact(((Below.refl _ w).alloc (C3 _) _).alloc (by simp) _).alloc (by simp;omega) _)
 clear l1 l2 l3;go_enter Tryz.func180,Tryz.ntmps180;go_wp2_with fail;go_ret;exact hres.out
def A7H (w0:World) (b:Bool) (E:Ending) (w':World):Prop:=(∃x:Int,E=.returned (.int .i64 x)∧decide (0≤x)=b)∧Below w0 w0 w'
theorem A4e (d:Nat) (w0 w:World) (gc gl gr:Nat) (cv lv rv tv:Value) (ps:List Pd) (l:List (List Vl)) (r:List (List (List Vl))) (hM:Mat w0 w gc gl gr cv lv rv) (hp:PsAt d w0 cv ps) (hsz:Pr.sizes ps≤1000) (hW:Want w0)
  (hl:RwsOn (fun k=>k<w0.heap.size) w0 lv l) (ht:TusOn (fun k=>k<w0.heap.size) w0 tv r) (hll:l.length≤1000) (htl:∀x∈r,x.length≤1000) (hrl:r.length≤1000000) :
  Calls Tryz.prog 197 #[tv,.func (.func 198) #[] #[.pointer (some ⟨gr,0,none⟩),.pointer (some ⟨gl,0,none⟩),.pointer (some ⟨gc,0,none⟩)]] w (A7H w0 (r.any (Mt.fits ps l))):=by
 obtain⟨R0,c0,rfl,_⟩:=ht.form;have HT:=J1 ht;have HP:=J1 (J0 hp (J0 hsz (J0 hW (J0 hl (J0 hll htl)))));have HM:=J1 hM;obtain⟨n,hn⟩:∃n,n=r.length:=⟨_,rfl⟩;rw[←hn]at hrl HT ⊢;have HN:=J1 hn;clear ht hp hsz hW hl hll htl hM hn;go_enter Tryz.func197,Tryz.ntmps197;go_wp2_with fail
 go_loopw [8] (fun i wr=>∃(k:Nat) (rv:Value),k≤n∧i=.int .i64 k∧Hid ((r.take k).any (Mt.fits ps l)=false)∧Hid (Mat w0 wr gc gl gr cv lv rv)) (fun i _=>n-(intOf i).toNat)
 case atStart=>exact⟨0,rv,E3 _,rfl,J1 (by simp),HM⟩
 case round =>
  obtain⟨k,rv2,hk,rfl,hno,HMk⟩:=hrel
  by_cases hlt:k<n
  ·obtain⟨t,gt⟩:∃t,r[k]?=some t:=⟨r[k]'(by have:=HN.out;omega),A8 _⟩
   obtain⟨b1,o1,p1,B1,d1,rfl,_,h1⟩:=HT.out.pick gt;have y0:=(h1 _ HMk.out.base).1;have ht0:=(h1 _ (Below.refl _ _)).2
   have i1:(0:Int)≤(k:Int):=by omega
   have i2:(k:Int)<(n:Int):=by omega
   have cf:=A7h d w0 wr gc gl gr cv lv rv2 _ ps l t HMk.out HP.out.1 HP.out.2.1 HP.out.2.2.1 HP.out.2.2.2.1 ht0 HP.out.2.2.2.2.1 (HP.out.2.2.2.2.2 t (C8 gt));obtain⟨b,hb⟩:∃b,b=Mt.fits ps l t:=⟨_,rfl⟩;rw[←hb]at cf;have Hr:=J1 hb;have Gx:=J1 gt
   have Ht:=J1 (show r.take (k+1)=r.take k++[t] by rw[D7,gt];rfl)
   generalize t.length=tl at *;clear h1 ht0 gt hb;go_wp2_with fail;refine cf.mono ?_;rintro E w2 ⟨rv3,rfl,hM3,_,_⟩;have HM3:=J1 hM3;clear cf y0 hM3
   cases b with
   | true =>
    have hyes:=J1 (show A7H w0 (r.any (Mt.fits ps l)) (.returned (.int .i64 (k:Int))) w2 from⟨⟨k,rfl,by rw[F4.2 ⟨t,C8 Gx.out,Hr.out.symm⟩];simp⟩,HM3.out.base⟩)
    go_wp2_with fail;go_ret;exact hyes.out
   | false =>
    have hno2:Hid ((r.take (k+1)).any (Mt.fits ps l)=false):=J1 (by rw[Ht.out,List.any_append,hno.out];simp[←Hr.out])
    go_wp2_with fail
    go_roundw
    case rel=>exact⟨k+1,rv3,by omega,by go_num,hno2,HM3⟩
    case measure=>simp[intOf];omega
  ·have hend:=J1 (show A7H w0 (r.any (Mt.fits ps l)) (.returned (.int .i64 (-1))) wr from⟨⟨-1,rfl,by rw[←C7 (l:=r) (i:=k) (by have:=HN.out;omega),hno.out];rfl⟩,HMk.out.base⟩)
   go_wp2_with fail;go_ret;exact hend.out
theorem A1W (d:Nat) (w0 w:World) (gc gl gr:Nat) (cv lv rv tv:Value) (ps:List Pd) (l:List (List Vl)) (r:List (List (List Vl))) (hM:Mat w0 w gc gl gr cv lv rv) (hp:PsAt d w0 cv ps) (hsz:Pr.sizes ps≤1000) (hW:Want w0)
  (hl:RwsOn (fun k=>k<w0.heap.size) w0 lv l) (ht:TusOn (fun k=>k<w0.heap.size) w0 tv r) (hll:l.length≤1000) (htl:∀x∈r,x.length≤1000) (hrl:r.length≤1000000) :
  Calls Tryz.prog 179 #[tv,.func (.func 198) #[] #[.pointer (some ⟨gr,0,none⟩),.pointer (some ⟨gl,0,none⟩),.pointer (some ⟨gc,0,none⟩)]] w fun E w'=>E=.returned (.bool (r.any (Mt.fits ps l)))∧Below w0 w0 w':=by
 have ci:=A4e d w0 w gc gl gr cv lv rv tv ps l r hM hp hsz hW hl ht hll htl hrl;obtain⟨R0,c0,rfl,_⟩:=ht.form;generalize r.any (Mt.fits ps l)=b at *;generalize r.length=n at *;clear hM hp hsz hW hl ht hll htl;go_enter Tryz.func179,Tryz.ntmps179;go_wp2_with fail;refine ci.mono ?_;rintro E w2 ⟨⟨x,rfl,hx⟩,hb⟩;clear ci;have HX:=J1 hx;clear hx;go_wp2_with fail;go_ret
 exact⟨J8 (by rw[←HX.out]),hb⟩
theorem A8R (av:Value) (a:List (List Vl)) (w:World) (ha:RwsOn Al w av a) (hla:a.length≤1000) (ha2:∀x∈a,x.length≤1000000) :
  Calls Tryz.prog 178 #[av] w (TuplesOn (fun k=>w.heap.size≤k) w [a]):=by
 have cm:=A3o Al av (.slice none 0 0) a [] w ha (RwsOn.nil _ _) hla (by simp) ha2 (by simp)
 rw[Mt.merge_nil]at cm;obtain⟨A1,c1,rfl,_⟩:=ha.form;clear ha ha2;obtain⟨n,hn⟩:∃n,n=a.length:=⟨_,rfl⟩;rw[←hn]at cm ⊢;have HN:=J1 hn;clear hn;go_enter Tryz.func178,Tryz.ntmps178;go_wp2_with fail;refine cm.mono ?_;rintro E w2 ⟨B,d,rfl,hr,hb⟩;rw[←HN.out]at hr ⊢
 have hres:=J1 (show TuplesOn (fun k=>w.heap.size≤k) w [a] (.returned (.slice (some ⟨w2.heap.size,0,none⟩) 1 1)) (w2.alloc (Obj.cells #[.slice B n d] 33)) from⟨_,1,rfl,A6a hr _ (fun _ h=>h) hb.size,J5 hb (J6 _ _)⟩)
 clear cm hr hb;go_wp2_with fail;go_ret;exact hres.out
theorem Mat.keep {w0 w w':World} {gc gl gr:Nat} {cv lv rv:Value} {S:Nat→Prop} (h:Mat w0 w gc gl gr cv lv rv) (hk:Keeps S w w') (h1:S gc) (h2:S gl) (h3:S gr) (h4:∀k,rv.ownBlock=some k→S k) (h5:∀k,k<w0.heap.size→S k):Mat w0 w' gc gl gr cv lv rv:=by
 obtain⟨n,xs,ho⟩:=h.own;exact⟨h.cj.keeps hk h1,h.ll.keeps hk h2,h.rm.keeps hk h3,⟨n,xs,Q9 ho hk h4⟩,hk.below0 h.base h5,h.new,h.ne⟩
theorem A2g {w:World} {b1 n1 s1 b2 n2 s2:Nat} {e1 e2:TypeId} {v1 v2:Value} {x1 x2:List Value} (h1:w.ownsRow b1 e1 s1 v1 n1 x1) (h2:w.ownsRow b2 e2 s2 v2 n2 x2) (hne:e1≠e2):∀k,v1.ownBlock=some k→v2.ownBlock≠some k:=by
 intro k hk
 rcases h1.2 with⟨rfl,_⟩ | ⟨g,cap,cur,rfl,_,hg,_⟩
 ·cases hk
 ·have e3:g=k:=by simpa[Value.ownBlock]using hk
  subst e3
  exact X8 h2 (cs:=cur.toList) (by unfold Lies;simpa using hg) hne.symm
def A2Y (sv:Value) (gc gl gr:Nat):Prop:=∀k,sv.ownBlock=some k→k≠gc∧k≠gl∧k≠gr
def A3L (lo gr:Nat) (rv:Value):Nat→Prop:=fun k=>lo≤k∧k≠gr∧rv.ownBlock≠some k
theorem A7T {w0 wr w2:World} {gc gl gr m:Nat} {cv lv rv rv' sv:Value} {us:List Value} {ts:List (List (List Vl))} (hT:TuRow (A3L w0.heap.size gr rv) w0.heap.size wr sv m us ts) (hM:Mat w0 wr gc gl gr cv lv rv) (hA:A2Y sv gc gl gr)
  (hk:Keeps (fun k=>k≠gr∧rv.ownBlock≠some k) wr w2) (hw:rv'.ownBlock=rv.ownBlock∨∃g,rv'.ownBlock=some g∧wr.heap.size≤g):TuRow (A3L w0.heap.size gr rv') w0.heap.size w2 sv m us ts:=by
 obtain⟨n,xs,ho⟩:=hM.own;have h1:TuRow (fun k=>A3L w0.heap.size gr rv k∧k<wr.heap.size) w0.heap.size wr sv m us ts:=hT.mono fun k hk1 hk2=>⟨hk2,hk1⟩
 refine(h1.keep hk (fun k hk1=>⟨(hA k hk1).2.2,A2g hT.own ho (by decide) k hk1⟩) fun k _ _ hk2=>hk2.1.2).mono fun k _ hk2=>⟨hk2.1.1,hk2.1.2.1,?_⟩
 rcases hw with e | ⟨g,e,hge⟩
 ·rw[e];exact hk2.1.2.2
 ·rw[e];intro e2;cases e2;have:=hk2.2;omega
theorem A6h {w0 w2 w3 w4 w5:World} {gc gl gr m:Nat} {cv lv rv sv sv' u:Value} {us:List Value} {ts:List (List (List Vl))} {t:List (List Vl)} (hT:TuRow (A3L w0.heap.size gr rv) w0.heap.size w2 sv m us ts) (hM:Mat w0 w2 gc gl gr cv lv rv) (hA:A2Y sv gc gl gr)
  (hb:Below w2 w2 w3) (hu:RwsOn (fun k=>w2.heap.size≤k) w3 u t) (hb4:Below w3 w3 w4) (hown:w5.ownsRow w0.heap.size 33 1 sv' (m+1) (us++[u])) (hg:w4.grownBy w5 sv.ownBlock) (hw:sv'.ownBlock=sv.ownBlock∨∃g,sv'.ownBlock=some g∧w4.heap.size≤g) :
  TuRow (A3L w0.heap.size gr rv) w0.heap.size w5 sv' (m+1) (us++[u]) (ts++[t])∧Mat w0 w5 gc gl gr cv lv rv∧A2Y sv' gc gl gr:=by
 obtain⟨n,xs,ho⟩:=hM.own;have hs2:=hb.size;have hs3:=hb4.size;have hsv:=hT.own.lt;have hT4:=(hT.below hb).below hb4
 have hu4:RwsOn (fun k=>sv.ownBlock≠some k∧A3L w0.heap.size gr rv k) w4 u t:=(hu.below hb4 (C3 _)).mono fun k _ hk=>⟨fun e=>by have:=(hsv k e).2;omega,by have:=hM.base.size;omega,fun e=>by have:=hM.rm.lt;omega,fun e=>by have:=(ho.lt k e).2;omega⟩
 have hM4:Mat w0 w4 gc gl gr cv lv rv:=(hM.keep (N4 (S:=Al) hb) trivial trivial trivial (fun _ _=>trivial) fun _ _=>trivial).keep (N4 (S:=Al) hb4) trivial trivial trivial (fun _ _=>trivial) fun _ _=>trivial
 refine⟨hT4.push hu4 hown hg hw,hM4.keep (S9 hg) (fun e=>(hA _ e).1 rfl) (fun e=>(hA _ e).2.1 rfl) (fun e=>(hA _ e).2.2 rfl) (fun k hk e=>A2g hT.own ho (by decide) k e hk) (fun k hk e=>by have:=(hsv k e).1;omega),fun k hk=>?_⟩
 rcases hw with e | ⟨g,e,hge⟩
 ·exact hA k (by rw[←e];exact hk)
 ·rw[e]at hk;cases hk
  have:=hM.cj.lt;have:=hM.ll.lt;have:=hM.rm.lt
  exact⟨by omega,by omega,by omega⟩
theorem A5w (d:Nat) (cv lv rv:Value) (ps:List Pd) (l:List (List Vl)) (r:List (List (List Vl))) (w:World) (hp:PsAt d w cv ps) (hsz:Pr.sizes ps≤1000) (hW:Want w) (hl:RwsOn Al w lv l) (hr:TusOn Al w rv r)
  (hl1:l.length≤100) (hl2:∀x∈l,x.length≤100) (hr1:r.length≤20000) (hr2:∀x∈r,x.length≤100) (hr3:∀x∈r,∀y∈x,y.length≤100) :
  Calls Tryz.prog 177 #[cv,lv,rv] w (TuplesOn (fun k=>w.heap.size≤k) w (Mt.found ps l r)):=by
 obtain⟨i0,hi,hz0,hz1,hz2⟩:=info_parts Tryz.infoTup13;have hl':RwsOn (fun k=>k<w.heap.size) w lv l:=hl.mono fun k h1 _=>h1;have hr':TusOn (fun k=>k<w.heap.size) w rv r:=hr.mono fun k h1 _=>h1;obtain⟨P0,p0,rfl,_⟩:=hp.form;obtain⟨L0,c0,rfl,_⟩:=hl'.form;obtain⟨R0,c1,rfl,_⟩:=hr'.form;have HP:=J1 (J0 hp (J0 hsz hW));have HL:=J1 (J0 hl' (J0 hl1 hl2));have HR:=J1 (J0 hr' (J0 hr2 hr3));obtain⟨n,hn⟩:∃n,n=r.length:=⟨_,rfl⟩;rw[←hn]at hr1 HR ⊢;have HN:=J1 hn;obtain⟨ll,hll⟩:∃n,n=l.length:=⟨_,rfl⟩;rw[←hll]at HL ⊢;have HLL:=J1 hll;obtain⟨pl,hpl⟩:∃n,n=ps.length:=⟨_,rfl⟩;rw[←hpl]at HP ⊢;have cm:=A1J w P0 L0 pl p0 ll c0;clear hp hsz hW hl hr hl' hr' hl1 hl2 hr2 hr3 hn hll hpl;go_enter Tryz.func177,Tryz.ntmps177;go_wp2_with fail;refine cm.mono ?_;rintro E w1 ⟨gc,gl,gr,rfl,hM1⟩;have HM1:=J1 hM1;clear cm hM1;go_wp2_with fail
 go_loopw [7,16] (fun s i wr=>∃(q m:Nat) (us:List Value) (sv rv:Value),q≤n∧i=.int .i64 q∧sv=s∧m≤q∧Hid (m=(Mt.found ps l (r.take q)).length)∧Hid (TuRow (A3L w.heap.size gr rv) w.heap.size wr sv m us (Mt.found ps l (r.take q)))∧Hid (Mat w wr gc gl gr (.slice P0 pl p0) (.slice L0 ll c0) rv)∧Hid (A2Y sv gc gl gr)) (fun _ i _=>n-(intOf i).toNat)
 case atStart=>exact⟨0,0,[],_,_,by omega,rfl,rfl,by omega,J1 (by simp[Mt.found_nil]),J1 ⟨World.ownsRow_nil _ _ _ _,by simp[Mt.found_nil],fun i t h=>by simp[Mt.found_nil]at h⟩,HM1,J1 fun k hk=>by cases hk⟩
 case round =>
  obtain⟨q,m,us,sv,rv2,hq,rfl,rfl,hmq,HM,HT,HMk,HA⟩:=hrel
  by_cases hlt:q<n
  ·obtain⟨t,gt⟩:∃t,r[q]?=some t:=⟨r[q]'(by have:=HN.out;omega),A8 _⟩
   obtain⟨b1,o1,p1,B1,d1,hR0,_,h1⟩:=HR.out.1.pick gt;subst hR0
   have i1:(0:Int)≤(q:Int):=by omega
   have i2:(q:Int)<(n:Int):=by omega
   have hcell:=(h1 wr HMk.out.base).1;have ht0:=(h1 w (Below.refl _ _)).2;have htl:=HR.out.2.1 t (C8 gt);have htl2:=HR.out.2.2 t (C8 gt)
   have cf:=A7h d w wr gc gl gr _ _ rv2 _ ps l t HMk.out HP.out.1 HP.out.2.1 HP.out.2.2 HL.out.1 ht0 (by have:=HL.out.2.1;have:=HLL.out;omega) (by omega)
   have HGT:=J1 (Mt.found_take (ps:=ps) (l:=l) gt);have HTL:=J1 (J0 ht0 (J0 htl htl2));obtain⟨b,hb⟩:∃b,b=Mt.fits ps l t:=⟨_,rfl⟩;rw[←hb]at cf;have HB:=J1 hb;obtain⟨tl,htl'⟩:∃n,n=t.length:=⟨_,rfl⟩;rw[←htl']at cf hcell HTL;have HTl:=J1 htl';clear h1 gt ht0 htl htl2 hb htl';go_wp2_with fail;refine cf.mono ?_;rintro E w2 ⟨rv3,rfl,hM2,hk2,hw2⟩;have HT2:=J1 (A7T HT.out HMk.out HA.out hk2 hw2);have HM2:=J1 hM2;clear cf hcell hM2 hk2 hw2
   cases b with
   | true =>
    have HG2:=J1 (show Mt.found ps l (r.take (q+1))=Mt.found ps l (r.take q)++[Mt.merge l t] by rw[HGT.out,←HB.out];rfl)
    have cg:=A3o (fun k=>k<w.heap.size) _ _ l t w2 (HL.out.1.below HM2.out.base (C3 _)) (HTL.out.1.below HM2.out.base (C3 _)) (by have:=HL.out.2.1;have:=HLL.out;omega) (by have:=HTL.out.2.1;have:=HTl.out;omega) (fun x hx=>D5 (HL.out.2.2 x hx) (by decide)) (fun x hx=>D5 (HTL.out.2.2 x hx) (by decide))
    obtain⟨M,hM⟩:∃M,M=Mt.merge l t:=⟨_,rfl⟩;rw[←hM]at cg HG2;clear hM;go_wp2_with fail;refine cg.mono ?_;rintro E w3 ⟨MA,mc,rfl,hMO,hb3⟩
    have hmm:m≤20000:=by omega
    have hsz3:w.heap.size≤w3.heap.size:=D5 HM2.out.base.size hb3.size;have HMO:=J1 hMO;obtain⟨ml,hml⟩:∃n,n=M.length:=⟨_,rfl⟩;rw[←hml]at HMO ⊢;have HO3:=J1 (A1H (A1H HT2.out.own hb3) (J6 w3 (Obj.cells #[.slice MA ml mc] 33)));have HB3:=J1 hb3;clear cg hMO hml hb3
    go_wp2_with (first
     | (at_builtin;refine Q8 _ rfl _ _ 29 rfl w.heap.size 33 i0 (.slice none 0 0) 1 24 Tryz.underlying29 hi hz0 hz1 hz2 rfl (by decide) _ m us rfl HO3.out ⟨w3.heap.size,0,none⟩ 1 1 [.slice MA ml mc] rfl rfl ?c1 ?c2 ?c3 ?c4 ?c5 ?_))
    case c1=>exact cell_one_new _ _ _
    case c2=>simp[Value.oneCell']
    case c3=>unfold maxLen;omega
    case c4=>omega
    case c5=>simp;omega
    intro v1 w5 hown3 hgrow hwhere
    have hst:=A6h HT2.out HM2.out HA.out HB3.out HMO.out (J6 w3 (Obj.cells #[.slice MA ml mc] 33)) hown3 hgrow (by simpa using hwhere)
    rw[←HG2.out]at hst;have HS:=J1 hst
    have HM5:=J1 (show m+1=(Mt.found ps l (r.take (q+1))).length by rw[HG2.out,C6,←HM.out];rfl)
    clear hown3 hgrow hwhere hst;go_wp2_with fail
    go_roundw
    case rel=>exact⟨q+1,m+1,_,_,_,by omega,by go_num,rfl,by omega,HM5,J1 HS.out.1,J1 HS.out.2.1,J1 HS.out.2.2⟩
    case measure=>simp[intOf];omega
   | false =>
    have HG2:=(show Mt.found ps l (r.take (q+1))=Mt.found ps l (r.take q) by rw[HGT.out,←HB.out];simp)
    have HM5:=J1 (show m=(Mt.found ps l (r.take (q+1))).length by rw[HG2,←HM.out])
    have HT5:=J1 (show TuRow (A3L w.heap.size gr rv3) w.heap.size w2 sv m us (Mt.found ps l (r.take (q+1))) from by rw[HG2];exact HT2.out)
    clear HG2;go_wp2_with fail
    go_roundw
    case rel=>exact⟨q+1,m,_,_,_,by omega,by go_num,rfl,by omega,HM5,HT5,HM2,HA⟩
    case measure=>simp[intOf];omega
  ·obtain⟨A0,a0,rfl⟩:=ownsForm HT.out.own
   have hres:=J1 (show TuplesOn (fun k=>w.heap.size≤k) w (Mt.found ps l r) (.returned (.slice A0 m a0)) wr from by
    have h1:=HT.out;have h2:=HM.out
    rw[C7 (by have:=HN.out;omega)]at h1 h2
    exact⟨A0,a0,by rw[←h2],by rw[←h2];exact h1.tusOn (fun _ h=>h) (fun _ h=>h.1),HMk.out.base⟩)
   go_wp2_with fail;go_ret;exact hres.out
theorem A7j (k:Int) (d:Nat) (cv lv rv:Value) (ps:List Pd) (l:List (List Vl)) (r:List (List (List Vl))) (w:World) (hp:PsAt d w cv ps) (hsz:Pr.sizes ps≤1000) (hW:Want w) (hl:RwsOn Al w lv l) (hr:TusOn Al w rv r)
  (hl1:l.length≤100) (hl2:∀x∈l,x.length≤100) (hr1:r.length≤20000) (hr2:∀x∈r,x.length≤100) (hr3:∀x∈r,∀y∈x,y.length≤100) :
  Calls Tryz.prog 153 #[k,cv,lv,rv] w (TuplesOn (fun j=>w.heap.size≤j) w (Mt.extend k ps l r)):=by
 have cm:=A5w d cv lv rv ps l r w hp hsz hW hl hr hl1 hl2 hr1 hr2 hr3;have hl':RwsOn (fun k=>k<w.heap.size) w lv l:=hl.mono fun k h1 _=>h1;have hr':TusOn (fun k=>k<w.heap.size) w rv r:=hr.mono fun k h1 _=>h1;have hany:=Mt.any_found ps l r;obtain⟨P0,p0,rfl,_⟩:=hp.form;obtain⟨L0,c0,rfl,_⟩:=hl.form;obtain⟨R0,c1,rfl,_⟩:=hr.form
 have ca:=fun(W:World) (h:Below w w W)=>A8R _ l W (hl.below h (C3 _)) (by omega) fun x hx=>D5 (hl2 x hx) (by decide)
 have cc:=fun(W:World) (gc gl gr:Nat) (hM:Mat w W gc gl gr _ _ _)=>A1W d w W gc gl gr _ _ (.slice none 0 0) _ ps l r hM hp hsz hW hl' hr' (by omega) (fun x hx=>D5 (hr2 x hx) (by decide)) (by omega)
 have ct:=A1J w P0 L0 ps.length p0 l.length c0;obtain⟨m,hm⟩:∃m,m=Mt.found ps l r:=⟨_,rfl⟩;unfold Mt.extend;rw[←hm]at cm hany ⊢;obtain⟨b,hb⟩:∃b,b=r.any (Mt.fits ps l):=⟨_,rfl⟩;rw[←hb]at cc hany
 have hml:m.length≤20000:=by rw[hm];exact D5 (Mt.found_le _ _ _) hr1
 have CA:=J1 ca;have CC:=J1 cc;clear hp hsz hW hl hr hl' hr' hl1 hl2 hr1 hr2 hr3 hm hb ca cc;generalize ps.length=pl at *;generalize r.length=rl at *;generalize l.length=ll at *;obtain⟨ml,hml'⟩:∃n,n=m.length:=⟨_,rfl⟩
 have fin1:(k=1∨(k=2∧0<ml))→Mt.of k l m=m:=fun h=>by unfold Mt.of;rw[if_pos (by rw[←hml'];exact h)]
 have fin2:¬(k=1∨(k=2∧0<ml))→(k=2∨(k=3∧0<ml)∨(k=4∧¬0<ml))→Mt.of k l m=[l]:=fun h h2=>by
  unfold Mt.of;rw[if_neg (by rw[←hml'];exact h),if_pos (by rw[←hml'];exact h2)]
 have fin3:¬(k=1∨(k=2∧0<ml))→¬(k=2∨(k=3∧0<ml)∨(k=4∧¬0<ml))→Mt.of k l m=[]:=fun h h2=>by
  unfold Mt.of;rw[if_neg (by rw[←hml'];exact h),if_neg (by rw[←hml'];exact h2)]
 rw[←hml']at hany hml
 by_cases k1:k=1
 ·have e:=fin1 (.inl k1);rw[e];clear e fin1 fin2 fin3 hany hml' hml ct CA CC;subst k1;go_enter Tryz.func153,Tryz.ntmps153;go_wp2_with fail;refine cm.mono ?_;rintro E w1 ⟨A,c,rfl,hT,hb⟩
  have hres:=J1 (show TuplesOn (fun j=>w.heap.size≤j) w m (.returned (.slice A m.length c)) w1 from⟨A,c,rfl,hT,hb⟩)
  generalize m.length=q at *;clear cm hT hb;go_wp2_with fail;go_ret;exact hres.out
 ·by_cases k2:k=2
  ·by_cases hs:0<ml
   ·have e:=fin1 (.inr ⟨k2,hs⟩);rw[e];clear e fin1 fin2 fin3 hany ct CA CC k1;subst k2
    have hs1:(ml:Int)>0:=by omega
    have hs2:(0:Int)<(ml:Int):=by omega
    go_enter Tryz.func153,Tryz.ntmps153;go_wp2_with fail;refine cm.mono ?_;rintro E w1 ⟨A,c,rfl,hT,hb⟩
    have hres:=J1 (show TuplesOn (fun j=>w.heap.size≤j) w m (.returned (.slice A m.length c)) w1 from⟨A,c,rfl,hT,hb⟩)
    rw[←hml']at hres ⊢;clear cm hT hb hml';go_wp2_with fail;go_ret;exact hres.out
   ·have e:=fin2 (by omega) (.inl k2)
    rw[e];clear e fin1 fin2 fin3 hany ct CC k1;subst k2
    have hs1:¬((ml:Int)>0):=by omega
    have hs2:¬((0:Int)<(ml:Int)):=by omega
    go_enter Tryz.func153,Tryz.ntmps153;go_wp2_with fail;refine cm.mono ?_;rintro E w1 ⟨A,c,rfl,hT,hb⟩;have HB:=J1 hb;rw[←hml']at ⊢;clear cm hT hb hml';go_wp2_with fail;refine(CA.out w1 HB.out).mono ?_;rintro E w2 ⟨A2,c2,rfl,hT2,hb2⟩
    have hres:=J1 (show TuplesOn (fun j=>w.heap.size≤j) w [l] (.returned (.slice A2 1 c2)) w2 from⟨A2,c2,rfl,hT2.mono (fun _ _ h=>D5 HB.out.size h),J5 HB.out hb2⟩)
    clear hT2 hb2;go_wp2_with fail;go_ret;exact hres.out
  ·by_cases k34:k=3∨k=4
   ·have hcase:((k=3∧0<ml∧Mt.of k l m=[l])∨(k=4∧¬0<ml∧Mt.of k l m=[l]))∨((k=3∧¬0<ml∧Mt.of k l m=[])∨(k=4∧0<ml∧Mt.of k l m=[])):=by
     by_cases hs:0<ml
     ·rcases k34 with h | h
      ·exact .inl (.inl ⟨h,hs,fin2 (by omega) (by omega)⟩)
      ·exact .inr (.inr ⟨h,hs,fin3 (by omega) (by omega)⟩)
     ·rcases k34 with h | h
      ·exact .inr (.inl ⟨h,hs,fin3 (by omega) (by omega)⟩)
      ·exact .inl (.inr ⟨h,hs,fin2 (by omega) (by omega)⟩)
    have HA:=J1 hany;clear fin1 fin2 fin3 hany cm hml' k34 k1 k2
    rcases hcase with hcase | hcase
    ·rcases hcase with⟨hk,hs,e⟩ | ⟨hk,hs,e⟩
     all_goals
      subst k;have hbe:b=decide (0<ml):=HA.out
      first
       | (rw[decide_eq_true hs]at hbe)
       | (rw[decide_eq_false hs]at hbe)
      subst b;rw[e];clear e;go_enter Tryz.func153,Tryz.ntmps153;go_wp2_with fail;refine ct.mono ?_;rintro E w1 ⟨gc,gl,gr,rfl,hM⟩;have cc:=CC.out w1 gc gl gr hM;clear ct hM;go_wp2_with fail;refine cc.mono ?_;rintro E w2 ⟨rfl,hb⟩;have HB:=J1 hb;clear cc hb;go_wp2_with fail;refine(CA.out w2 HB.out).mono ?_;rintro E w3 ⟨A2,c2,rfl,hT2,hb2⟩
      have hres:=J1 (show TuplesOn (fun j=>w.heap.size≤j) w [l] (.returned (.slice A2 1 c2)) w3 from⟨A2,c2,rfl,hT2.mono (fun _ _ h=>D5 HB.out.size h),J5 HB.out hb2⟩)
      clear hT2 hb2;go_wp2_with fail;go_ret;exact hres.out
    ·rcases hcase with⟨hk,hs,e⟩ | ⟨hk,hs,e⟩
     all_goals
      subst k;have hbe:b=decide (0<ml):=HA.out
      first
       | (rw[decide_eq_true hs]at hbe)
       | (rw[decide_eq_false hs]at hbe)
      subst b;rw[e];clear e;go_enter Tryz.func153,Tryz.ntmps153;go_wp2_with fail;refine ct.mono ?_;rintro E w1 ⟨gc,gl,gr,rfl,hM⟩;have cc:=CC.out w1 gc gl gr hM;clear ct hM;go_wp2_with fail;refine cc.mono ?_;rintro E w2 ⟨rfl,hb⟩;have HB:=J1 hb;clear cc hb
      have hres:=J1 (show TuplesOn (fun j=>w.heap.size≤j) w [] (.returned (.slice none 0 0)) w2 from⟨none,0,rfl,TusOn.nil _ _,HB.out⟩)
      go_wp2_with fail;go_ret;exact hres.out
   ·have e:=fin3 (by omega) (by omega)
    rw[e]
    have k3:¬k=3:=by omega
    have k4:¬k=4:=by omega
    have hres:=J1 (show TuplesOn (fun j=>w.heap.size≤j) w [] (.returned (.slice none 0 0)) w from⟨none,0,rfl,TusOn.nil _ _,Below.refl _ _⟩)
    clear e fin1 fin2 fin3 hany cm hml' k34 ct CA CC;go_enter Tryz.func153,Tryz.ntmps153;go_wp2_with fail;go_ret;exact hres.out
theorem A8D {w:World} {g:Nat} {r:List Vl} (h:Lies w g 53 (rowCells r)):RowAt w (.slice (some ⟨g,0,none⟩) r.length r.length) r :=
 ⟨_,_,rfl,C3 _,fun j x hj=>⟨g,0,none,rfl,h.lt,by rw[S2];exact h.cell (S8 r hj).1,by rw[S2];exact h.cell (S8 r hj).2⟩⟩
theorem A0A {P:Program} (w:World) {ops:Array Oper} {rest:List Oper} {o:Oper} {a:Act} {Q:Exit→Act→World→Prop} (hgd:o.guard=none) (s x:Operand) (t:TypeId)
  (ho:o.op=.call { callee:=.builtin .append,args:=#[s,x],argTypes:=#[t,t] }) (e:TypeId) (i:TypeInfo) (ht:P.underlying t=some (.slice e)) (hi:P.info? e=some i)
  (A B:Option Addr) (n cap c:Nat) (hs:a.eval s=.slice A n cap) (hx:a.eval x=.slice B 0 c) (hn:n≤cap) (h:wpList P ops Q rest (a.put o.dst (.slice A n cap)) w):wpList P ops Q (o::rest) a w:=by
 refine wpList_plain hgd fun K hK=>?_
 have hf:(Builtin.firstCells i.size 0 (.slice B 0 c)).run P w=.ok #[] w:=by
  cases B with
  | none=>exact run_firstCells_none w i.size 0 0 c
  | some ad=>exact run_firstCells_some (P:=P) w i.size 0 ad 0 c [] (by simp) (by simp)
 have hrun:(Builtin.append_ #[t,t] o.type #[.slice A n cap,.slice B 0 c]).run P w=.ok (.slice A n cap) w:=by
  cases A <;> simp[Builtin.append_,run_underlying ht,sizeOf,typeInfo,hi,Builtin.lenOf,hn,hf,storeCells]
 unfold Oper.wp
 simp[execOp,ho,resolve,invoke,builtin,hs,hx,hrun,Result.andThen]
 exact hK _ _ h
theorem A9Y (n:Nat) (h:n≤1000000):bits BinOp.and .u64 (n:Int) 4294967295=(n:Int):=by
 have e:((4294967295:Int))=((4294967295:Nat):Int):=rfl
 rw[e,bits_and_u64_nat n 4294967295 (by omega) (by decide),show(4294967295:Nat)=2 ^ 32-1 from rfl,Nat.and_two_pow_sub_one_eq_mod,Nat.mod_eq_of_lt (by omega)]
theorem A6Y (n:Nat) (w:World) (h:n≤1000000) :
  Calls Tryz.prog 117 #[.int .u64 1,.int .u64 (n:Int)] w fun e w'=>e=.returned (.tuple #[.int .u64 0,.int .u64 (n:Int)])∧w=w':=by
 have h1:=A9Y n h
 have h2:(n:Int) / 4294967296=0:=by omega
 have h3:bits BinOp.and .u64 (1:Int) 4294967295=1:=by decide +kernel
 have h4:bits BinOp.and .u64 (0:Int) 4294967295=0:=by decide +kernel
 go_enter Tryz.func117,Tryz.ntmps117;go_wp2_with fail
 go_ret2
 exact⟨rfl,rfl⟩
theorem A6X (n:Nat) (w:World) (h:n≤1000000) :
  Calls Tryz.prog 94 #[.int .u64 1,.int .u64 (n:Int)] w fun e w'=>e=.returned (.tuple #[.int .u64 0,.int .u64 (n:Int)])∧w=w':=by
 have c:=A6Y n w h;go_enter Tryz.func94,Tryz.ntmps94
 go_wp2_with (first | (go_at_call 117;refine c.mono ?_;rintro e w' ⟨rfl,rfl⟩))
 go_ret2
 exact⟨rfl,rfl⟩
theorem Tryz.infoVal13:(Tryz.prog.info? 53).map (fun i=>(i.zero,i.size,i.bytes))=some (some (.agg #[false,z9]),2,16):=by kernel_rfl
theorem A1s {α:Type} {L cs:List α} {off:Nat} (h:off≤L.length):(splice L off cs).take (off+cs.length)=L.take off++cs:=by
 unfold splice
 rw[←D4,List.take_left' (by rw[C6,E4];omega)]
theorem A0c (p k:Nat) (x:Vl):rowCells (List.replicate p x)++rowCells (List.replicate k x)=rowCells (List.replicate (p+k) x):=by
 unfold rowCells;rw[←List.flatMap_append,List.replicate_append_replicate]
structure Rep13 (w:World) (g n p:Nat) (x:Vl) (wr:World) (cl:List Value):Prop where
 lies:Lies wr g 53 cl
 len:cl.length=n*2
 are:cl.take (p*2)=rowCells (List.replicate p x)
 kept:Below w w wr
theorem A74 {w wr w':World} {g n p k:Nat} {x:Vl} {cl:List Value} (h:Rep13 w g n p x wr cl) (hp:p≤n) (hk:k≤p) (hpk:p+k≤n) (hg:w.heap.size≤g) (h':Hid (w'.heap[g]?=some (.cells (splice cl (p*2) (cl.take (k*2))).toArray 53 (0,0))∧Keeps (fun k=>k≠g) wr w'∧w'.heap.size=wr.heap.size)) :
  ∃cl',Rep13 w g n (p+k) x w' cl':=by
 obtain⟨h1,h2,_⟩:=h'.out;have hl:=h.len;have hs:=h.kept.size
 have htl:(cl.take (k*2)).length=k*2:=by rw[E4];omega
 refine⟨_,h1,by rw[length_splice _ _ _ (by rw[htl];omega)];exact hl,?_,h.kept.trans (h2.below hs fun b hb e=>by omega)⟩
 have e1:=A1s (L:=cl) (cs:=cl.take (k*2)) (off:=p*2) (by omega)
 rw[htl,←Nat.add_mul]at e1
 rw[e1,h.are,show cl.take (k*2)=(cl.take (p*2)).take (k*2) by rw[List.take_take];congr 1;omega,h.are,←A0c]
 congr 1
 have e2:=A0c k (p-k) x
 rw[show k+(p-k)=p by omega]at e2
 rw[←e2,List.take_left' (by rw[J9,List.length_replicate])]
def Repeated (w:World) (r:List Vl) (E:Ending) (w':World):Prop :=
 ∃g,E=.returned (.slice (some ⟨g,0,none⟩) r.length r.length)∧w.heap.size≤g∧Lies w' g 53 (rowCells r)∧Below w w w'
theorem A5h (n c:Nat) (A:Option Addr) (x:Vl) (w:World) (hn:n≤10000) (hx:RowAt w (.slice A 1 c) [x]) :
  Calls Tryz.prog 52 #[.slice A 1 c,(n:Int)] w (Repeated w (List.replicate n x)):=by
 obtain⟨i0,hi,hz0,hz1,hz2⟩:=info_parts Tryz.infoVal13
 have cm:=A6X n w (by omega)
 have h1:¬((n:Int)<0):=by omega
 obtain⟨b,o,p,hA,hbs,hc0⟩:=(show RowAt w (.slice A [x].length c) [x] from hx).pair (j:=0) (x:=x) rfl
 subst hA;have hxb:=J1 hx;clear hx;go_enter Tryz.func52,Tryz.ntmps52
 go_wp2_with (first
  | (go_at_call 94;refine cm.mono ?_;rintro e w' ⟨rfl,rfl⟩)
  | (at_make;refine wpList_make_full _ rfl _ _ 63 rfl w.heap.size 53 i0 (.agg #[false,z9]) 2 Tryz.underlying63 hi hz0 hz1 .i64 .i64 (n:Int) (n:Int) n rfl rfl rfl rfl (by rw[hz2];omega) (by unfold maxLen;omega) (C3 _) ?_))
 intro w1 hown hgrow;obtain⟨g,hg⟩:∃g,g=w.heap.size:=⟨_,rfl⟩;rw[←hg]at hown ⊢
 have hb1:Below w w w1:=⟨hgrow.os,hgrow.tape,hgrow.output,hgrow.size,fun k hk=>hgrow.block k hk (by simp)⟩
 obtain⟨cl,hl1,hl2⟩:∃cl,Lies w1 g 53 cl∧cl.length=n*2:=by
  rcases hown.2 with⟨hv,_⟩ | ⟨g',cap,cur,hv,_,hh,_,_,hs,_⟩
  ·cases hv
  ·cases hv
   exact⟨cur.toList,by simpa[Lies]using hh,by simpa using hs⟩
 have HL:=J1 (J0 hl1 (J0 hl2 hb1));have HX:=J1 (hxb.out.below hb1 (C3 _));have HG:=J1 hg;have hlt:g<w1.heap.size:=hl1.lt;clear hown hgrow hb1 hl1 hl2 hc0 hbs cm hg;obtain⟨k1,hk1⟩:∃k,k=min 1 n:=⟨_,rfl⟩;have HK1:=J1 hk1
 have hcs:∀(j:Nat) (v:Value),(rowCells (List.replicate k1 x))[j]?=some v→w1.cell? ((⟨b,o,p⟩:Addr).add j)=some v:=fun j v hj=>by
  have hc:=RowAt.cells (r:=[x]) HX.out
  by_cases h0:k1=0
  ·rw[h0]at hj;simp[rowCells]at hj
  ·rw[show k1=1 by omega]at hj
   exact hc j v hj
 have HCS:=J1 hcs
 have hrl:(rowCells (List.replicate k1 x)).length=k1*2:=by rw[J9,List.length_replicate]
 have HRL:=J1 hrl
 have hk1n:k1≤n:=by omega
 clear hcs hrl hk1
 go_wp2_with (first
  | (refine X5 _ rfl _ _ _ _ rfl 53 2 Tryz.underlying63 (by rw[hi];exact congrArg some hz1) (some ⟨g,0,none⟩) (some ⟨b,o,p⟩) n n 1 c rfl rfl g 0 cl 53 HL.out.1 k1 HK1.out (rowCells (List.replicate k1 x)) HRL.out (fun _=>⟨rfl,_,rfl,HCS.out⟩) (by decide) (by have:=HL.out.2.1;have:=HRL.out;omega) (R8 _) ?_))
 intro w2 hh2 hk2 _
 have hst:∃cl',Rep13 w g n k1 x w2 cl':=by
  refine⟨_,hh2,by rw[length_splice _ _ _ (by have:=HL.out.2.1;have:=HRL.out;omega)];exact HL.out.2.1,?_,HL.out.2.2.trans (hk2.below HL.out.2.2.size fun b hb e=>by have:=HG.out;omega)⟩
  have e1:=A1s (L:=cl) (cs:=rowCells (List.replicate k1 x)) (off:=0) (by omega)
  rw[HRL.out]at e1
  simpa using e1
 obtain⟨c0,hst⟩:=hst;have HST:=J1 hst;clear hst hh2 hk2;go_wp2_with fail
 go_loopw [8] (fun i wr=>∃(q:Nat) (cl:List Value),q≤n∧(q=0→n=0)∧i=.int .i64 q∧Hid (Rep13 w g n q x wr cl)) (fun i _=>n-(intOf i).toNat)
 case atStart=>exact⟨k1,c0,hk1n,by have:=HK1.out;omega,rfl,HST⟩
 case round =>
  obtain⟨q,cl',hq,hq0,rfl,HR⟩:=hrel
  by_cases hqn:q<n
  ·have i1:(0:Int)≤(q:Int):=by omega
   have i2:(q:Int)<(n:Int):=by omega
   have i3:(q:Int)≤(n:Int):=by omega
   have hq1:1≤q:=by omega
   have hnq:¬n=q:=by omega
   obtain⟨k,hk⟩:∃k,k=min q (n-q):=⟨_,rfl⟩;have HK:=J1 hk
   have hsub:=fun(j:Nat) (v:Value) (hj:(cl'.take (k*2))[j]?=some v)=>(show wr.cell? ((⟨g,0,none⟩:Addr).add j)=some v by
    have hj2:j<k*2:=by have:=(D8.1 hj).1;rw[E4]at this;omega
    rw[List.getElem?_take_of_lt hj2]at hj;rw[S2];exact HR.out.lies.cell hj)
   have HSUB:=J1 hsub
   have hwr:IntKind.i64.wrap ((q:Int)+(k:Int))=(q:Int)+(k:Int):=by rw[IntKind.wrap_i64];omega
   have hone:∀v∈cl'.take (k*2),v.oneCell'=true:=by
    rw[show cl'.take (k*2)=(cl'.take (q*2)).take (k*2) by rw[List.take_take];congr 1;omega,HR.out.are]
    exact fun v hv=>R8 _ v (List.mem_of_mem_take hv)
   have HONE:=J1 hone;clear hsub hone hk;go_wp2_with fail
   go_region_law (refine T9 rfl (.tmp 41) (.tmp 44) _ _ rfl 53 2 Tryz.underlying63 (by rw[hi];exact congrArg some hz1) (some ⟨g,q*2,none⟩) (some ⟨g,0,none⟩) (n-q) (n-q) q n (by simp[Act.eval,Act.put]) (by simp[Act.eval,Act.put]) g (q*2) cl' 53 HR.out.lies k HK.out (cl'.take (k*2)) (by have:=HK.out;have:=HR.out.len;rw[E4];omega) (fun _=>⟨rfl,_,rfl,HSUB.out⟩) (by decide) (by have:=HK.out;have:=HR.out.len;rw[E4];omega) HONE.out ?_;intro w4 hg4)
   obtain⟨cl4,h4⟩:=A74 (k:=k) (show Rep13 w g n q x wr.drew cl' from⟨HR.out.lies,HR.out.len,HR.out.are,HR.out.kept.drew⟩) hq (by have:=HK.out;omega) (by have:=HK.out;omega) (by have:=HG.out;omega) hg4
   have H4:=J1 h4
   have hk1:1≤k:=by have:=HK.out;omega
   have hk2:q+k≤n:=by have:=HK.out;omega
   clear h4 hg4 i1 i2 i3 hq1 hnq;go_simp;go_wp2_with fail
   go_roundw
   case rel=>exact⟨q+k,cl4,hk2,by omega,by go_num,H4⟩
   case measure=>simp[intOf];omega
  ·have hqe:q=n:=by omega
   have i2:¬((q:Int)<(n:Int)):=by omega
   have hres:=J1 (show Repeated w (List.replicate n x) (.returned (.slice (some ⟨g,0,none⟩) n n)) wr from by
    have h:=HR.out
    refine⟨g,by rw[List.length_replicate],by rw[HG.out];exact C3 _,?_,h.kept⟩
    have e:=h.are
    rw[hqe,C7 (by rw[h.len];exact C3 _)]at e
    rw[←e];exact h.lies)
   clear hqe hqn;go_wp2_with fail;go_ret;exact hres.out
theorem A0I {w:World} {A:Option Addr} {n c:Nat} {l:List Int} {k:IntKind} {j:Nat} {x:Int} (h:Sl w (.slice A n c) (l.map (Value.int k))) (hj:l[j]?=some x) :
  ∃b o p,A=some ⟨b,o,p⟩∧b<w.heap.size∧w.cell? ((⟨b,o,p⟩:Addr).add j)=some (.int k x):=by
 obtain⟨A',c',hv,_,hx⟩:=h;cases hv
 exact hx j _ (by rw[F5,hj];rfl)
theorem Mt.wide_take {cols:List Int} {js:List Nat} {q j:Nat} (h:js[q]?=some j):Mt.wide cols (js.take (q+1))=Mt.wide cols (js.take q)+Mt.num cols j:=by
 unfold Mt.wide;rw[D7,h,List.map_append,List.sum_append]
 rfl
theorem Mt.num_at {cols:List Int} {j:Nat} {x:Int} (h:cols[j]?=some x):Mt.num cols j=x.toNat:=by unfold Mt.num;rw[h];rfl
theorem A53 (tv cv:Value) (js:List Nat) (cols:List Int) (w:World) (ht:Sl w tv ((ints js).map (Value.int .i64))) (hc:Sl w cv (cols.map (Value.int .i64))) (hj:∀j∈js,j<cols.length) (hb:∀x∈cols,x≤100) (hjl:js.length≤64) :
  Calls Tryz.prog 51 #[tv,cv] w fun e w'=>e=.returned (.tuple #[.int .i64 (Mt.wide cols js:Nat),true])∧w=w':=by
 obtain⟨A,c,htv,_⟩:=id ht;subst htv;obtain⟨B,d,hcv,_⟩:=id hc;subst hcv;simp only[E0,ints]at ht hc ⊢;obtain⟨n,hn⟩:∃n,n=js.length:=⟨_,rfl⟩;obtain⟨m,hm⟩:∃m,m=cols.length:=⟨_,rfl⟩;rw[←hn]at ht hjl ⊢;rw[←hm]at hc ⊢;have HT:=J1 ht;have HC:=J1 hc;have HJ:=J1 (J0 hn (J0 hm (J0 hj hb)));clear ht hc hj hb hn hm;go_enter Tryz.func51,Tryz.ntmps51;go_wp2_with fail
 go_loopw [6,11] (fun s i wr=>∃(q z:Nat),q≤n∧i=.int .i64 q∧s=.int .i64 z∧z≤100*q∧Hid (z=Mt.wide cols (js.take q))∧w=wr) (fun _ i _=>n-(intOf i).toNat)
 case atStart=>exact⟨0,0,by omega,rfl,rfl,by omega,J1 rfl,rfl⟩
 case round =>
  obtain⟨q,z,hq,rfl,rfl,hz,HZ,rfl⟩:=hrel
  by_cases hlt:q<n
  ·obtain⟨j,gj⟩:∃j,js[q]?=some j:=⟨js[q]'(by have:=HJ.out.1;omega),A8 _⟩
   have hjm:j<m:=by rw[HJ.out.2.1];exact HJ.out.2.2.1 j (C8 gj)
   obtain⟨x,gx⟩:∃x,cols[j]?=some x:=⟨cols[j]'(by have:=HJ.out.2.1;omega),A8 _⟩
   have hx:=HJ.out.2.2.2 x (C8 gx)
   obtain⟨b1,o1,p1,rfl,_,y0⟩:=A0I (l:=js.map Int.ofNat) (j:=q) (x:=(j:Int)) HT.out (by rw[F5,gj];rfl)
   obtain⟨b2,o2,p2,rfl,_,y1⟩:=A0I HC.out gx
   have i1:(0:Int)≤(q:Int):=by omega
   have i2:(q:Int)<(n:Int):=by omega
   have i3:(0:Int)≤(j:Int):=by omega
   have i4:(j:Int)<(m:Int):=by omega
   have hst:=Mt.wide_take (cols:=cols) gj;rw[Mt.num_at gx,←HZ.out]at hst;have HST:=J1 hst;clear gj gx hst hlt hjm
   by_cases hx0:0>x
   ·have hx0':x<0:=hx0
    have i5:¬(x>134217727-(z:Int)):=by omega
    have i6:¬(134217727-(z:Int)<x):=by omega
    have hz2:=J1 (show z=Mt.wide cols (js.take (q+1)) by rw[HST.out];omega)
    go_wp2_with fail
    go_roundw
    case rel=>exact⟨q+1,z,by omega,by go_num,by go_num,by omega,hz2,by first | rfl | trivial⟩
    case measure=>simp[intOf];omega
   ·obtain⟨y,rfl⟩:∃y:Nat,x=y:=⟨x.toNat,by omega⟩
    have hx0':¬((y:Int)<0):=hx0
    have i5:¬((y:Int)>134217727-(z:Int)):=by omega
    have i6:¬(134217727-(z:Int)<(y:Int)):=by omega
    have hz2:=J1 (show z+y=Mt.wide cols (js.take (q+1)) by rw[HST.out];omega)
    go_wp2_with fail
    go_roundw
    case rel=>exact⟨q+1,z+y,by omega,by go_num,by go_num,by omega,hz2,by first | rfl | trivial⟩
    case measure=>simp[intOf];omega
  ·have i2:¬((q:Int)<(n:Int)):=by omega
   have hres:=J1 (show z=Mt.wide cols js by rw[HZ.out,C7 (by have:=HJ.out.1;omega)])
   go_wp2_with fail
   go_ret2
   exact⟨by rw[←hres.out];rfl,rfl⟩
theorem Mt.wide_mono {cols:List Int} {js:List Nat} (q:Nat):Mt.wide cols (js.take q)≤Mt.wide cols js:=by
 have h:=List.take_append_drop q js
 have e:Mt.wide cols js=Mt.wide cols (js.take q)+Mt.wide cols (js.drop q):=by
  conv=>lhs;rw[←h]
  unfold Mt.wide;rw[List.map_append,List.sum_append]
 omega
theorem Mt.wide_le {cols:List Int} (hb:∀x∈cols,x≤100):∀js:List Nat,Mt.wide cols js≤100*js.length
 | []=>C3 _
 | j::js=>by
  have ih:=Mt.wide_le hb js
  have:Mt.num cols j≤100:=by
   unfold Mt.num
   by_cases h:j<cols.length
   ·rw[A8 h];have:=hb _ (List.getElem_mem h)
    show(cols[j]).toNat≤100
    omega
   ·rw[E6 (by omega)];simp
  unfold Mt.wide at *;rw[List.map_cons,List.sum_cons,G5];omega
theorem Mt.flatOf_take {t:List (List Vl)} {cols:List Int} {js:List Nat} {q j:Nat} (h:js[q]?=some j):Mt.flatOf t cols (js.take (q+1))=Mt.flatOf t cols (js.take q)++Mt.cut (Mt.num cols j) (Mt.row t j):=by
 unfold Mt.flatOf;rw[D7,h,List.flatMap_append]
 simp
theorem V3 (a b:List Vl):rowCells (a++b)=rowCells a++rowCells b:=by unfold rowCells;rw[List.flatMap_append]
def S3 (t:List (List Vl)) (cols:List Int) (js:List Nat) (q:Nat):List Vl:=Mt.flatOf t cols (js.take q)++List.replicate (Mt.wide cols js-Mt.wide cols (js.take q)) (true,0)
theorem A0H (t:List (List Vl)) (cols:List Int) (js:List Nat) (q:Nat):(S3 t cols js q).length=Mt.wide cols js:=by
 unfold S3;rw[C6,Mt.flatOf_length,List.length_replicate];have:=Mt.wide_mono (cols:=cols) (js:=js) q;omega
theorem A38 {t:List (List Vl)} {cols:List Int} {js:List Nat} {q j:Nat} (h:js[q]?=some j) :
  splice (rowCells (S3 t cols js q)) (Mt.wide cols (js.take q)*2) (rowCells ((Mt.row t j).take (Mt.num cols j)))=rowCells (S3 t cols js (q+1)):=by
 have hw:=Mt.wide_take (cols:=cols) h;have hm:=Mt.wide_mono (cols:=cols) (js:=js) (q+1);have hF:=Mt.flatOf_length t cols (js.take q);unfold S3 splice;rw[Mt.flatOf_take h,Mt.cut_eq]
 rw[V3,List.take_left' (by rw[J9,hF]),List.drop_append,List.drop_eq_nil_of_le (by rw[J9,J9,hF];omega),F1,J9,J9,hF,E4]
 rw[D4,D4,V3,V3,List.replicate_append_replicate]
 congr 2
 have e:∀a b:Nat,(rowCells (List.replicate (a+b) ((true,0):Vl))).drop (a*2)=rowCells (List.replicate b (true,0)):=fun a b=>by
  rw[←A0c,List.drop_left' (by rw[J9,List.length_replicate])]
 have e2:=e (min (Mt.num cols j) (Mt.row t j).length) (Mt.num cols j-(Mt.row t j).length+(Mt.wide cols js-Mt.wide cols (js.take (q+1))));rw[←e2]
 congr 1
 ·omega
 ·congr 2
  omega
theorem A39 {t:List (List Vl)} {cols:List Int} {js:List Nat} {q j:Nat} (h:js[q]?=some j) (hj:t.length≤j):S3 t cols js (q+1)=S3 t cols js q:=by
 have hw:=Mt.wide_take (cols:=cols) h;have hm:=Mt.wide_mono (cols:=cols) (js:=js) (q+1);unfold S3;rw[Mt.flatOf_take h,Mt.row_out hj,Mt.cut_eq,List.take_nil,F1,D4,List.length_nil,List.replicate_append_replicate]
 congr 2
 omega
theorem A3r (t:List (List Vl)) (cols:List Int) (js:List Nat):S3 t cols js 0=List.replicate (Mt.wide cols js) (true,0):=rfl
theorem A5z (t:List (List Vl)) (cols:List Int) (js:List Nat):S3 t cols js js.length=Mt.flatOf t cols js:=by
 unfold S3;rw[C7 (C3 _),Nat.sub_self]
 simp
theorem A2D (r:List Vl) (y:Nat):rowCells (r.take y)=(rowCells r).take (y*2):=by
 by_cases h:y≤r.length
 ·have e:=List.take_append_drop y r
  conv=>rhs;rw[←e,V3]
  rw[List.take_left' (by rw[J9,E4];omega)]
 ·rw[C7 (by omega),C7 (by rw[J9];omega)]
theorem A2C {w:World} {A:Option Addr} {n c:Nat} {r:List Vl} (h:RowAt w (.slice A n c) r) (y:Nat) (h0:0<(rowCells (r.take y)).length) :
  ∃ad,A=some ad∧∀(j:Nat) (v:Value),(rowCells (r.take y))[j]?=some v→w.cell? (ad.add j)=some v:=by
 have hn:n=r.length:=by obtain⟨A',c',hv,_⟩:=h;injection hv
 subst hn;rw[J9,E4]at h0
 obtain⟨b,o,p,rfl,_⟩:=h.pair (j:=0) (A8 (show 0<r.length by omega))
 refine⟨_,rfl,fun j v hj=>h.cells j v ?_⟩;rw[A2D]at hj;have:=(D8.1 hj).1;rw[E4]at this
 rwa[List.getElem?_take_of_lt (by omega)]at hj
theorem A0J {w1 wr w4:World} {g z y:Nat} {t:List (List Vl)} {cols:List Int} {js:List Nat} {q j:Nat} {r:List Vl} (hr:r=Mt.row t j) (h:Below w1 w1 wr) (hg:w1.heap.size≤g)
  (hst:splice (rowCells (S3 t cols js q)) (z*2) (rowCells ((Mt.row t j).take y))=rowCells (S3 t cols js (q+1)))
  (h4:Hid (w4.heap[g]?=some (.cells (splice (rowCells (S3 t cols js q)) (z*2) (rowCells (r.take y))).toArray 53 (0,0))∧Keeps (fun k=>k≠g) wr.drew w4∧w4.heap.size=wr.drew.heap.size)) :
  Lies w4 g 53 (rowCells (S3 t cols js (q+1)))∧Below w1 w1 w4:=by
 obtain⟨e1,e2,_⟩:=h4.out;subst hr;rw[hst]at e1
 exact⟨e1,(h.drew).trans (e2.below h.size fun b hb e=>by omega)⟩
def A84 (w:World) (r:List Vl) (E:Ending) (w':World):Prop :=
 ∃A c,E=.returned (.slice A r.length c)∧RowOn (fun k=>w.heap.size≤k) w' (.slice A r.length c) r∧Below w w w'
theorem A4m {T:Nat→Prop} {w:World} {g:Nat} {r:List Vl} (h:Lies w g 53 (rowCells r)) (hg:T g):RowOn T w (.slice (some ⟨g,0,none⟩) r.length r.length) r :=
 ⟨_,_,rfl,C3 _,fun j x hj=>⟨g,0,none,rfl,hg,h.lt,by rw[S2];exact h.cell (S8 r hj).1,by rw[S2];exact h.cell (S8 r hj).2⟩⟩
theorem A8E (tv cv:Value) (t:List (List Vl)) (s:Nat) (cols:List Int) (w:World) (ht:RwsOn Al w tv t) (hs:s<18446744073709551616) (hc:Sl w cv (cols.map (Value.int .i64))) (htl:t.length≤1000) (ht2:∀r∈t,r.length≤1000) (hcl:cols.length≤64) (hb:∀x∈cols,x≤100) (hT:Tab w) :
  Calls Tryz.prog 28 #[tv,.int .u64 (s:Int),cv] w (A84 w (Mt.flat t s cols)):=by
 obtain⟨i0,hi,hz0,hz1,hz2⟩:=info_parts Tryz.infoVal13;obtain⟨T0,t0,rfl,_⟩:=ht.form;obtain⟨B,d,hcv,_⟩:=id hc;subst hcv;rw[E0]at hc ⊢;have hfl:=Mt.flat_memb t s cols hcl;obtain⟨m,hm⟩:∃m,m=cols.length:=⟨_,rfl⟩;rw[←hm]at hc hcl hfl ⊢;have cb:=A7v ((m:Int)-1) w;obtain⟨bn,hbn⟩:∃b,b=St.belowN ((m:Int)-1):=⟨_,rfl⟩
 have hbnl:bn<18446744073709551616:=by rw[hbn];exact St.belowN_lt _
 have hjb:∀j∈St.memb (s &&& bn),j<cols.length:=fun j hj=>by
  have h:=(St.mem_memb.1 hj).2;rw[Nat.testBit_and,hbn,St.testBit_belowN]at h
  simp at h
  omega
 rw[←hbn]at cb hfl;have hand:bits BinOp.and .u64 (s:Int) (bn:Int)=((s &&& bn:Nat):Int):=bits_and_u64_nat s bn hs hbnl
 have hand2:bits BinOp.and .u64 (bn:Int) (s:Int)=((s &&& bn:Nat):Int):=by rw[bits_and_u64_nat bn s hbnl hs,Nat.and_comm]
 obtain⟨X,hX⟩:∃X,X=s &&& bn:=⟨_,rfl⟩;rw[←hX]at hand hand2 hfl hjb
 have hXl:X<18446744073709551616:=by rw[hX];exact Nat.lt_of_le_of_lt Nat.and_le_left hs
 have cs:=A6i (X:Int) w (U64.of hXl) hT;rw[Int.toNat_natCast]at cs
 have hjl:(St.memb X).length≤64:=by rw[St.memb_length];exact St.pop_le 64 X
 obtain⟨js,hjs⟩:∃js,js=St.memb X:=⟨_,rfl⟩;rw[←hjs]at cs hfl hjb hjl;rw[←hfl];have hwl:=Mt.wide_le hb js;have HC:=J1 (J0 hc (J0 hm (J0 hjb hb)));have HT:=J1 (J0 ht (J0 htl ht2));obtain⟨tl,htl'⟩:∃n,n=t.length:=⟨_,rfl⟩;rw[←htl']at HT ⊢;have HTL:=J1 htl';clear hc hm hjb hb ht htl ht2 htl' hfl hbn hbnl hX hXl hjs hT hs;go_enter Tryz.func28,Tryz.ntmps28
 go_wp2_with (first
  | (go_at_call 50;refine cb.mono ?_;rintro e w' ⟨rfl,rfl⟩)
  | (go_at_call 49;refine cs.mono ?_))
 rintro E w1 ⟨v1,rfl,hown,hb1⟩;have hsl:Sl w1 v1 ((ints js).map (Value.int .i64)):=Sl.own hown
 have cw:=A53 v1 _ js cols w1 hsl (HC.out.1.below hb1 (C3 _) |> fun h=>by rw[HC.out.2.1]at h;exact h) HC.out.2.2.1 HC.out.2.2.2 hjl
 obtain⟨V,vc,rfl⟩:=ownsForm hown
 have hjle:(ints js).length=js.length:=by simp[ints]
 rw[←HC.out.2.1]at cw;rw[hjle]at cw hsl ⊢;have HSL:=J1 hsl;have HB1:=J1 hb1;clear cs cb hown hand hand2 hjle hsl hb1
 have hw64:Mt.wide cols js≤6400:=by omega
 have cr:=A5h (Mt.wide cols js) 1 (some ⟨w1.heap.size,0,none⟩) (true,0) (w1.alloc (Obj.cells #[true,z9] 53)) (by omega) (A8D (r:=[(true,0)]) (Lies.new w1 53 [true,z9]))
 rw[←A3r t cols js]at cr;have HLEN:=J1 (A0H t cols js 0);obtain⟨W,hW⟩:∃W,W=Mt.wide cols js:=⟨_,rfl⟩;rw[←hW]at cw cr hw64 HLEN;have HW:=J1 hW;clear hW hwl
 go_wp2_with (first
  | (go_at_call 51;refine cw.mono ?_;rintro e w' ⟨rfl,rfl⟩)
  | (go_at_call 52;refine cr.mono ?_))
 rintro E w3 ⟨g,rfl,hge,hl3,hb3⟩;rw[HLEN.out];have hb03:Below w1 w1 w3:=J5 (J6 w1 _) hb3
 have hge2:w1.heap.size≤g:=by simp at hge;omega
 have HS:=J1 (J0 hl3 (J0 hb03 hge2));clear cw cr hl3 hb3 hge hb03 hge2;go_wp2_with fail
 go_loopw [11,36] (fun s i wr=>∃(q z:Nat),q≤js.length∧i=.int .i64 q∧s=.int .i64 z∧z≤W∧Hid (z=Mt.wide cols (js.take q))∧Hid (Lies wr g 53 (rowCells (S3 t cols js q))∧Below w1 w1 wr)) (fun _ i _=>js.length-(intOf i).toNat)
 case atStart=>exact⟨0,0,by omega,rfl,rfl,by omega,J1 rfl,J1 ⟨HS.out.1,HS.out.2.1⟩⟩
 case round =>
  obtain⟨q,z,hq,rfl,rfl,hz,HZ,HR⟩:=hrel
  by_cases hlt:q<js.length
  ·obtain⟨j,gj⟩:∃j,js[q]?=some j:=⟨js[q]'hlt,A8 _⟩
   have hjm:j<m:=by rw[HC.out.2.1];exact HC.out.2.2.1 j (C8 gj)
   obtain⟨x,gx⟩:∃x,cols[j]?=some x:=⟨cols[j]'(by have:=HC.out.2.1;omega),A8 _⟩
   have hx:=HC.out.2.2.2 x (C8 gx)
   obtain⟨b1,o1,p1,rfl,_,y0⟩:=A0I (l:=js.map Int.ofNat) (j:=q) (x:=(j:Int)) (HSL.out.below HR.out.2 (C3 _)) (by rw[F5,gj];rfl)
   have hb0:=J5 HB1.out HR.out.2;obtain⟨b2,o2,p2,rfl,_,y1⟩:=A0I (HC.out.1.below hb0 (C3 _)) gx
   have i1:(0:Int)≤(q:Int):=by omega
   have i2:(q:Int)<(js.length:Int):=by omega
   have i3:(0:Int)≤(j:Int):=by omega
   have i4:(j:Int)<(m:Int):=by omega
   have hwt:=Mt.wide_take (cols:=cols) gj;have hwm:=Mt.wide_mono (cols:=cols) (js:=js) (q+1);have hnum:=Mt.num_at gx;have hst:=A38 (t:=t) (cols:=cols) gj;have hsk:=A39 (t:=t) (cols:=cols) gj;rw[hnum,←HZ.out]at hst hwt;rw[←HW.out]at hwm;have HST:=J1 (J0 hst (J0 hsk (J0 hwt hwm)));have HLL:=J1 (A0H t cols js q);have HB0:=J1 hb0;clear gj gx hst hsk hwt hwm hnum hb0 hjm;obtain⟨y,hy⟩:∃y,y=x.toNat:=⟨_,rfl⟩
   have hzy:z+y≤W:=by have:=HST.out.2.2;omega
   have hy100:y≤100:=by omega
   rw[←hy]at HST
   by_cases hjt:j<tl
   ·obtain⟨b3,o3,p3,B3,d3,rfl,_,_,y2,hd3,hrow⟩:=(HT.out.1.below HB0.out (C3 _)).at_ (Mt.row_mem (show j<t.length by rw[←HTL.out];exact hjt))
    have i5:(j:Int)<(tl:Int):=by omega
    have hrl:=HT.out.2.2 _ (C8 (Mt.row_mem (show j<t.length by rw[←HTL.out];exact hjt)))
    obtain⟨r,hr⟩:∃r,r=Mt.row t j:=⟨_,rfl⟩;rw[←hr]at y2 hrl hd3 hrow;obtain⟨rl,hrl'⟩:∃n,n=r.length:=⟨_,rfl⟩;rw[←hrl']at y2 hrl hd3 hrow
    have HROW:=J1 (show RowAt wr.drew (.slice B3 rl d3) r from hrow.at_)
    have HRJ:=J1 (J0 hr hrl');clear hrow hjt hr hrl';have HHS:=J1 HS.out.2.2
    by_cases hzW:z=W
    ·obtain rfl:y=0:=by omega
     rcases(show x<0∨x=0 by omega)with hx0 | hx0
     ·clear hy;go_wp2_with fail
      go_region_law (refine T9 rfl (.tmp 54) (.tmp 58) _ _ rfl 53 2 Tryz.underlying63 (by rw[hi];exact congrArg some hz1) (some ⟨g,0,none⟩) B3 0 0 rl d3 (by simp[Act.eval]) (by simp[Act.eval]) g (z*2) (rowCells (S3 t cols js q)) 53 HR.out.1 (Nat.min rl 0) rfl (rowCells (r.take 0)) (by rw[J9,E4,←HRJ.out.2];exact congrArg (·*2) (Nat.min_comm _ _)) (fun h0=>⟨absurd h0 (by simp[rowCells]),A2C HROW.out _ h0⟩) (by decide) (by have:=HLL.out;rw[J9,J9,E4,HLL.out,←HW.out];omega) (R8 _) ?_;intro w4 hg4)
      have HR4:=J1 (A0J HRJ.out.1 HR.out.2 HHS.out HST.out.1 hg4);clear hg4;go_simp;go_wp2_with fail
      go_roundw
      case rel=>exact⟨q+1,_,by omega,by go_num,by first | rfl | go_num,hzy,J1 HST.out.2.2.1.symm,HR4⟩
      case measure=>simp[intOf];omega
     ·clear hy;subst hx0;go_wp2_with fail
      go_region_law (refine T9 rfl (.tmp 54) (.tmp 58) _ _ rfl 53 2 Tryz.underlying63 (by rw[hi];exact congrArg some hz1) (some ⟨g,0,none⟩) B3 0 0 rl d3 (by simp[Act.eval]) (by simp[Act.eval]) g (z*2) (rowCells (S3 t cols js q)) 53 HR.out.1 (Nat.min rl 0) rfl (rowCells (r.take 0)) (by rw[J9,E4,←HRJ.out.2];exact congrArg (·*2) (Nat.min_comm _ _)) (fun h0=>⟨absurd h0 (by simp[rowCells]),A2C HROW.out _ h0⟩) (by decide) (by have:=HLL.out;rw[J9,J9,E4,HLL.out,←HW.out];omega) (R8 _) ?_;intro w4 hg4)
      have HR4:=J1 (A0J HRJ.out.1 HR.out.2 HHS.out HST.out.1 hg4);clear hg4;go_simp;go_wp2_with fail
      go_roundw
      case rel=>exact⟨q+1,_,by omega,by go_num,by first | rfl | go_num,hzy,J1 HST.out.2.2.1.symm,HR4⟩
      case measure=>simp[intOf];omega
    ·have hzW2:¬W=z:=fun e=>hzW e.symm
     have i7:(z:Int)+(y:Int)≤(W:Int):=by omega
     have i8:(0:Int)≤(z:Int)+(y:Int):=by omega
     have i9:(z:Int)≤(z:Int)+(y:Int):=by omega
     have i10:((z:Int)+(y:Int)).toNat=z+y:=by omega
     rcases(show(x<0∧y=0)∨(¬x<0∧x=y) by omega)with⟨hx0,hy0⟩ | ⟨hx0,hy0⟩
     ·clear hy i7 i8 i9 i10;subst hy0;go_wp2_with fail
      go_region_law (refine T9 rfl (.tmp 54) (.tmp 58) _ _ rfl 53 2 Tryz.underlying63 (by rw[hi];exact congrArg some hz1) (some ⟨g,z*2,none⟩) B3 0 (W-z) rl d3 (by simp[Act.eval]) (by simp[Act.eval]) g (z*2) (rowCells (S3 t cols js q)) 53 HR.out.1 (Nat.min rl 0) rfl (rowCells (r.take 0)) (by rw[J9,E4,←HRJ.out.2];exact congrArg (·*2) (Nat.min_comm _ _)) (fun h0=>⟨rfl,A2C HROW.out _ h0⟩) (by decide) (by have:=HLL.out;rw[J9,J9,E4,HLL.out,←HW.out];omega) (R8 _) ?_;intro w4 hg4)
      have HR4:=J1 (A0J HRJ.out.1 HR.out.2 HHS.out HST.out.1 hg4);clear hg4;go_simp;go_wp2_with fail
      go_roundw
      case rel=>exact⟨q+1,_,by omega,by go_num,by first | rfl | go_num,hzy,J1 HST.out.2.2.1.symm,HR4⟩
      case measure=>simp[intOf];omega
     ·clear hy;subst hy0;go_wp2_with fail
      go_region_law (refine T9 rfl (.tmp 54) (.tmp 58) _ _ rfl 53 2 Tryz.underlying63 (by rw[hi];exact congrArg some hz1) (some ⟨g,z*2,none⟩) B3 y (W-z) rl d3 (by simp[Act.eval]) (by simp[Act.eval]) g (z*2) (rowCells (S3 t cols js q)) 53 HR.out.1 (Nat.min rl y) rfl (rowCells (r.take y)) (by rw[J9,E4,←HRJ.out.2];exact congrArg (·*2) (Nat.min_comm _ _)) (fun h0=>⟨rfl,A2C HROW.out _ h0⟩) (by decide) (by have:=HLL.out;rw[J9,J9,E4,HLL.out,←HW.out];omega) (R8 _) ?_;intro w4 hg4)
      have HR4:=J1 (A0J HRJ.out.1 HR.out.2 HHS.out HST.out.1 hg4);clear hg4;go_simp;go_wp2_with fail
      go_roundw
      case rel=>exact⟨q+1,_,by omega,by go_num,by first | rfl | go_num,hzy,J1 HST.out.2.2.1.symm,HR4⟩
      case measure=>simp[intOf];omega
   ·have i5:¬((j:Int)<(tl:Int)):=by omega
    have hst:=HST.out.2.1 (by rw[←HTL.out];omega)
    have HR2:=J1 (show Lies wr g 53 (rowCells (S3 t cols js (q+1)))∧Below w1 w1 wr from by rw[hst];exact HR.out)
    clear hst hjt
    rcases(show(x<0∧y=0)∨(¬x<0∧x=y) by omega)with⟨hx0,hy0⟩ | ⟨hx0,hy0⟩
    all_goals
     clear hy;subst hy0;go_wp2_with fail
     go_roundw
     case rel=>exact⟨q+1,_,by omega,by go_num,by first | rfl | go_num,hzy,J1 HST.out.2.2.1.symm,HR2⟩
     case measure=>simp[intOf];omega
  ·have i2:¬((q:Int)<(js.length:Int)):=by omega
   have hres:=J1 (show A84 w (Mt.flatOf t cols js) (.returned (.slice (some ⟨g,0,none⟩) W W)) wr from by
    have h:=HR.out
    rw[show q=js.length by omega,A5z]at h
    have hl:(Mt.flatOf t cols js).length=W:=by rw[Mt.flatOf_length,HW.out]
    exact⟨_,W,by rw[hl],by rw[←hl];exact A4m h.1 (D5 HB1.out.size HS.out.2.2),J5 HB1.out h.2⟩)
   clear hlt;go_wp2_with fail;go_ret;exact hres.out
theorem A7M {T:Nat→Prop} {w:World} {v:Value} {us:List Value} {ts:List (List (List Vl))} (h:TusIn T w v us ts):∀u∈us,u.oneCell'=true:=fun u hu=>by
 obtain⟨i,hi,rfl⟩:=F9.1 hu
 obtain⟨u,h1,h2⟩:=h.tup i _ (A8 (show i<ts.length by have:=h.len;omega))
 rw[A8 hi]at h1;cases h1;exact h2.one
end Go.Proofs.YtbddhkgbpjhhaaaGreatDoor
