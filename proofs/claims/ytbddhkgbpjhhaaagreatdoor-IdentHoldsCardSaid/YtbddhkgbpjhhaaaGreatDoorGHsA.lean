/-
  LAID TOGETHER, BY PROGRAM, of: Hst, Hsk.
-/
import Derived.Test.YtbddhkgbpjhhaaaGreatDoorGPl2
import Derived.Test.YtbddhkgbpjhhaaaGreatDoorGMtB
import Derived.Test.YtbddhkgbpjhhaaaGreatDoorGPred
import Derived.Test.YtbddhkgbpjhhaaaGreatDoorGBase
import Derived.Test.YtbddhkgbpjhhaaaGreatDoorGTerms
import Derived.Test.YtbddhkgbpjhhaaaGreatDoorGBwr
import Derived.Test.YtbddhkgbpjhhaaaGreatDoorGVal
import Derived.Lib.Hide
set_option maxHeartbeats 6400000
set_option maxRecDepth 100000
namespace Go.Proofs.YtbddhkgbpjhhaaaGreatDoor
open Go.RowKit Go.Sort
def Tm.cells (x:Tm):List Value:=[x.k,x.t,x.c,x.z,x.n]
def tmCells (xs:List Tm):List Value:=xs.flatMap Tm.cells
def kyCells (ks:List (Tm × Tm)):List Value:=ks.flatMap fun c=>c.1.cells++c.2.cells
theorem A1T (ks:List (Tm × Tm)):(kyCells ks).length=ks.length*10:=by
 unfold kyCells
 induction ks with
 | nil=>rfl
 | cons x xs ih=>rw[E5,C6,ih,G5];show 10+_=_;omega
theorem A2w (x:Tm):∀u∈x.cells,u.oneCell'=true:=by
 intro u hu;simp only[Tm.cells,List.mem_cons,List.not_mem_nil,or_false]at hu
 rcases hu with rfl | rfl | rfl | rfl | rfl <;> rfl
theorem A4a (c:Tm × Tm):∀u∈c.1.cells++c.2.cells,u.oneCell'=true:=fun u hu=>(G3.1 hu).elim (A2w _ u) (A2w _ u)
theorem A0V (xs:List Tm) (x:Tm):tmCells (xs++[x])=tmCells xs++x.cells:=by simp[tmCells]
theorem A0e (xs:List (Tm × Tm)) (x:Tm × Tm):kyCells (xs++[x])=kyCells xs++(x.1.cells++x.2.cells):=by simp[kyCells]
theorem A1O {α:Type} (f:α→List Value) (s:Nat) (hs:∀x,(f x).length=s):∀(l:List α) (j:Nat) (x:α),l[j]?=some x→∀k,k<s→(l.flatMap f)[j*s+k]?=(f x)[k]?
 | [],j,x,h,k,_=>by simp at h
 | y::l,0,x,h,k,hk=>by
  cases h
  rw[E5,Nat.zero_mul,G6,F2 (by rw[hs];exact hk)]
 | y::l,j+1,x,h,k,hk=>by
  rw[E5,E8 (by rw[hs,Nat.succ_mul];omega),hs]
  rw[show(j+1)*s+k-s=j*s+k by rw[Nat.succ_mul];omega]
  exact A1O f s hs l j x (by simpa using h) k hk
structure TmCell (w:World) (X:Addr) (x:Tm):Prop where
 c0:w.cell? X=some (.int .i64 x.k)
 c1:w.cell? ⟨X.block,X.off+1,none⟩=some (.int .i64 x.t)
 c2:w.cell? ⟨X.block,X.off+2,none⟩=some (.int .i64 x.c)
 c3:w.cell? ⟨X.block,X.off+3,none⟩=some (.bool x.z)
 c4:w.cell? ⟨X.block,X.off+4,none⟩=some (.int .i64 x.n)
structure KyCell (w:World) (X:Addr) (x y:Tm):Prop where
 c0:w.cell? X=some (.int .i64 x.k)
 c1:w.cell? ⟨X.block,X.off+1,none⟩=some (.int .i64 x.t)
 c2:w.cell? ⟨X.block,X.off+2,none⟩=some (.int .i64 x.c)
 c3:w.cell? ⟨X.block,X.off+3,none⟩=some (.bool x.z)
 c4:w.cell? ⟨X.block,X.off+4,none⟩=some (.int .i64 x.n)
 c5:w.cell? ⟨X.block,X.off+5,none⟩=some (.int .i64 y.k)
 c6:w.cell? ⟨X.block,X.off+6,none⟩=some (.int .i64 y.t)
 c7:w.cell? ⟨X.block,X.off+7,none⟩=some (.int .i64 y.c)
 c8:w.cell? ⟨X.block,X.off+8,none⟩=some (.bool y.z)
 c9:w.cell? ⟨X.block,X.off+9,none⟩=some (.int .i64 y.n)
def TmsAt (w:World) (v:Value) (xs:List Tm):Prop :=
 ∃A c,v=.slice A xs.length c∧xs.length≤c∧∀j x,xs[j]?=some x→∃b o p,A=some ⟨b,o,p⟩∧b<w.heap.size∧TmCell w ((⟨b,o,p⟩:Addr).add (j*5)) x
def KysAt (w:World) (v:Value) (ks:List (Tm × Tm)):Prop :=
 ∃A c,v=.slice A ks.length c∧ks.length≤c∧∀j x,ks[j]?=some x→∃b o p,A=some ⟨b,o,p⟩∧b<w.heap.size∧KyCell w ((⟨b,o,p⟩:Addr).add (j*10)) x.1 x.2
theorem TmCell.below {w w':World} {B:Nat} {X:Addr} {x:Tm} (h:TmCell w X x) (hb:Below B w w') (hX:X.block<B):TmCell w' X x :=
 have k:=fun(o:Nat)=>hb.cell (p:=⟨X.block,o,none⟩) hX
 ⟨(hb.cell hX).trans h.c0,(k _).trans h.c1,(k _).trans h.c2,(k _).trans h.c3,(k _).trans h.c4⟩
theorem KyCell.below {w w':World} {B:Nat} {X:Addr} {x y:Tm} (h:KyCell w X x y) (hb:Below B w w') (hX:X.block<B):KyCell w' X x y :=
 have k:=fun(o:Nat)=>hb.cell (p:=⟨X.block,o,none⟩) hX
 ⟨(hb.cell hX).trans h.c0,(k _).trans h.c1,(k _).trans h.c2,(k _).trans h.c3,(k _).trans h.c4,(k _).trans h.c5,(k _).trans h.c6,(k _).trans h.c7,(k _).trans h.c8,(k _).trans h.c9⟩
variable {w w':World} {v:Value} {B:Nat}
theorem TmsAt.below {xs:List Tm} (h:TmsAt w v xs) (hb:Below B w w') (hB:w.heap.size≤B):TmsAt w' v xs:=by
 obtain⟨A,c,hv,hc,hx⟩:=h
 exact⟨A,c,hv,hc,fun j x hj=>by obtain⟨b,o,p,h1,h2,h3⟩:=hx j x hj;exact⟨b,o,p,h1,C9 h2 hb.size,h3.below hb (by rw[L7];show b<B;omega)⟩⟩
theorem KysAt.below {xs:List (Tm × Tm)} (h:KysAt w v xs) (hb:Below B w w') (hB:w.heap.size≤B):KysAt w' v xs:=by
 obtain⟨A,c,hv,hc,hx⟩:=h
 exact⟨A,c,hv,hc,fun j x hj=>by obtain⟨b,o,p,h1,h2,h3⟩:=hx j x hj;exact⟨b,o,p,h1,C9 h2 hb.size,h3.below hb (by rw[L7];show b<B;omega)⟩⟩
theorem TmsAt.form {xs:List Tm} (h:TmsAt w v xs):∃A c,v=.slice A xs.length c∧xs.length≤c:=by obtain⟨A,c,hv,hc,_⟩:=h;exact⟨A,c,hv,hc⟩
theorem KysAt.form {xs:List (Tm × Tm)} (h:KysAt w v xs):∃A c,v=.slice A xs.length c∧xs.length≤c:=by obtain⟨A,c,hv,hc,_⟩:=h;exact⟨A,c,hv,hc⟩
theorem TmsAt.at_ {A:Option Addr} {n c:Nat} {xs:List Tm} (h:TmsAt w (.slice A n c) xs) {j:Nat} {x:Tm} (hj:xs[j]?=some x) :
  ∃b o p,A=some ⟨b,o,p⟩∧∀W,Below w w W→TmCell W ((⟨b,o,p⟩:Addr).add (j*5)) x:=by
 obtain⟨A',c',hv,_,hx⟩:=h;cases hv;obtain⟨b,o,p,h1,h2,h3⟩:=hx j x hj
 exact⟨b,o,p,h1,fun W hb=>h3.below hb (by rw[L7];exact h2)⟩
theorem KysAt.at_ {A:Option Addr} {n c:Nat} {xs:List (Tm × Tm)} (h:KysAt w (.slice A n c) xs) {j:Nat} {x:Tm × Tm} (hj:xs[j]?=some x) :
  ∃b o p,A=some ⟨b,o,p⟩∧∀W,Below w w W→KyCell W ((⟨b,o,p⟩:Addr).add (j*10)) x.1 x.2:=by
 obtain⟨A',c',hv,_,hx⟩:=h;cases hv;obtain⟨b,o,p,h1,h2,h3⟩:=hx j x hj
 exact⟨b,o,p,h1,fun W hb=>h3.below hb (by rw[L7];exact h2)⟩
theorem TmsAt.own {base:Nat} {e:TypeId} {n:Nat} {xs:List Tm} (h:w.ownsRow base e 5 v n (tmCells xs)) (hn:xs.length=n):TmsAt w v xs:=by
 rcases id h.2 with⟨hv,h0⟩ | ⟨g,cap,cur,hv,hb,hg,hnc,_⟩
 ·refine⟨none,0,by rw[hv,hn,h0],by omega,fun j x hj=>?_⟩
  obtain rfl:xs=[]:=D6 (by omega)
  simp at hj
 ·refine⟨some ⟨g,0,none⟩,cap,by rw[hv,hn],by omega,fun j x hj=>⟨g,0,none,rfl,(D9.1 hg).1,?_⟩⟩
  have hc:=fun k (hk:k<5)=>A1O Tm.cells 5 (fun _=>rfl) xs j x hj k hk
  have hr:=fun k u (hu:(tmCells xs)[k]?=some u)=>h.cells (g:=g) (by rw[hv];rfl) k u hu
  simp only[S2]at hr ⊢
  exact⟨hr _ _ (hc 0 (by decide)),hr _ _ (hc 1 (by decide)),hr _ _ (hc 2 (by decide)),hr _ _ (hc 3 (by decide)),hr _ _ (hc 4 (by decide))⟩
theorem KysAt.own {base:Nat} {e:TypeId} {n:Nat} {xs:List (Tm × Tm)} (h:w.ownsRow base e 10 v n (kyCells xs)) (hn:xs.length=n):KysAt w v xs:=by
 rcases id h.2 with⟨hv,h0⟩ | ⟨g,cap,cur,hv,hb,hg,hnc,_⟩
 ·refine⟨none,0,by rw[hv,hn,h0],by omega,fun j x hj=>?_⟩
  obtain rfl:xs=[]:=D6 (by omega)
  simp at hj
 ·refine⟨some ⟨g,0,none⟩,cap,by rw[hv,hn],by omega,fun j x hj=>⟨g,0,none,rfl,(D9.1 hg).1,?_⟩⟩
  have hc:=fun k (hk:k<10)=>A1O (fun c:Tm × Tm=>c.1.cells++c.2.cells) 10 (fun _=>rfl) xs j x hj k hk
  have hr:=fun k u (hu:(kyCells xs)[k]?=some u)=>h.cells (g:=g) (by rw[hv];rfl) k u hu
  simp only[S2]at hr ⊢
  exact⟨hr _ _ (hc 0 (by decide)),hr _ _ (hc 1 (by decide)),hr _ _ (hc 2 (by decide)),hr _ _ (hc 3 (by decide)),hr _ _ (hc 4 (by decide)),hr _ _ (hc 5 (by decide)),hr _ _ (hc 6 (by decide)),hr _ _ (hc 7 (by decide)),hr _ _ (hc 8 (by decide)),hr _ _ (hc 9 (by decide))⟩
def OwnTms (w:World) (xs:List Tm) (E:Ending) (w':World):Prop:=∃v,E=.returned v∧w'.ownsRow w.heap.size 55 5 v xs.length (tmCells xs)∧Below w w w'
def OwnKys (w:World) (ks:List (Tm × Tm)) (E:Ending) (w':World):Prop:=∃v,E=.returned v∧w'.ownsRow w.heap.size 188 10 v ks.length (kyCells ks)∧Below w w w'
theorem Tryz.infoTerm15:(Tryz.prog.info? 55).map (fun i=>(i.zero,i.size,i.bytes))=some (some (.agg #[z9,z9,z9,false,z9]),5,40):=by kernel_rfl
theorem Tryz.infoKey15:(Tryz.prog.info? 188).map (fun i=>(i.zero,i.size,i.bytes))=some (some (.agg #[z9,z9,z9,false,z9,z9,z9,z9,false,z9]),10,80):=by kernel_rfl
theorem A91 (x:Tm):Te.tables x<18446744073709551616:=by
 unfold Te.tables
 split
 ·exact St.ofN_lt _
 ·decide
theorem Z1 (x:Tm) (s:Nat) (w:World) (hs:s<18446744073709551616) :
  Calls Tryz.prog 154 #[.agg #[x.k,x.t,x.c,x.z,x.n],.int .u64 (s:Int)] w fun e w'=>e=.returned (.bool (Hs.inn s x))∧Below w w w':=by
 have ct:=fun W=>A1k x.k x.t x.c x.z x.n W;have hl:=A91 x;have HI:Hid (Hs.inn s x=decide (Te.tables x &&& s≠0)):=J1 rfl;obtain⟨tb,htb⟩:∃tb,tb=Te.tables x:=⟨_,rfl⟩;rw[←htb]at hl HI
 have ct2:∀W,Calls Tryz.prog 126 #[.agg #[x.k,x.t,x.c,x.z,x.n]] W fun e w'=>e=.returned (.int .u64 (tb:Int))∧Below W W w':=by rw[htb];exact ct
 have hand:=bits_and_u64_nat tb s hl hs;generalize hz:tb &&& s=z at hand HI;have hb0:=J6 w (Obj.cells #[x.k,x.t,x.c,x.z,x.n] 55);have HB:=J1 hb0;clear ct htb hl hs hz hb0;go_enter Tryz.func154,Tryz.ntmps154;go_wp2_with fail;refine(ct2 _).mono ?_;rintro e w1 ⟨rfl,hb1⟩;have hb2:=J5 HB.out hb1;clear ct2 hb1;go_wp2_with fail;go_ret
 exact⟨J8 (by rw[HI.out,Bool.eq_iff_iff];simp),hb2⟩
theorem A5N (kv:Value) (ks:List (Tm × Tm)) (w:World) (hk:KysAt w kv ks) (hn100:ks.length≤1000) :
  Calls Tryz.prog 137 #[kv,z9] w (OwnTms w (ks.map Prod.fst)):=by
 obtain⟨i0,hi,hz0,hz1,hz2⟩:=info_parts Tryz.infoTerm15;obtain⟨K0,c0,rfl,_⟩:=hk.form;obtain⟨n,hn⟩:∃n,n=ks.length:=⟨_,rfl⟩;rw[←hn]at hk hn100 ⊢;have HK:=J1 hk;have HN:=J1 hn;clear hk hn;go_enter Tryz.func137,Tryz.ntmps137;go_wp2_with fail
 go_loopw [5,10] (fun s i wr=>∃(q:Nat) (u:Value),q≤n∧i=.int .i64 q∧u=s∧wr.ownsRow w.heap.size 55 5 u q (tmCells ((ks.map Prod.fst).take q))∧Below w w wr) (fun _ i _=>n-(intOf i).toNat)
 case atStart=>exact⟨0,_,E3 _,rfl,rfl,World.ownsRow_nil _ _ _ _,Below.refl _ _⟩
 case round =>
  obtain⟨q,u,hq,rfl,rfl,hown,hb⟩:=hrel
  by_cases hlt:q<n
  ·obtain⟨⟨x,y⟩,gx⟩:∃x,ks[q]?=some x:=⟨ks[q]'(by have:=HN.out;omega),A8 _⟩
   obtain⟨b,o,p,rfl,hx⟩:=HK.out.at_ gx;obtain⟨y0,y1,y2,y3,y4,y5,y6,y7,y8,y9⟩:=hx wr hb
   have HT:=J1 (show tmCells ((ks.map Prod.fst).take (q+1))=tmCells ((ks.map Prod.fst).take q)++x.cells by rw[D7,F5,gx];exact A0V _ _)
   have i1:(0:Int)≤(q:Int):=by omega
   have i2:(q:Int)<(n:Int):=by omega
   have hnw:=(J6 wr (Obj.cells #[x.k,x.t,x.c,x.z,x.n,y.k,y.t,y.c,y.z,y.n] 188))
   have hcm:=J1 (CameN.new (wr.alloc (Obj.cells #[x.k,x.t,x.c,x.z,x.n,y.k,y.t,y.c,y.z,y.n] 188)) 55 5 1 [x.k,x.t,x.c,x.z,x.n] (wr.heap.size+1) (by rw[J2]) rfl)
   have HO:=J1 ((hown.alloc (Obj.cells #[x.k,x.t,x.c,x.z,x.n,y.k,y.t,y.c,y.z,y.n] 188)).alloc (Obj.cells [.int .i64 x.k,.int .i64 x.t,.int .i64 x.c,.bool x.z,.int .i64 x.n].toArray 55));have HB:=J1 (hb.trans (M9 (J5 hnw (J6 (wr.alloc (Obj.cells #[x.k,x.t,x.c,x.z,x.n,y.k,y.t,y.c,y.z,y.n] 188)) (Obj.cells [.int .i64 x.k,.int .i64 x.t,.int .i64 x.c,.bool x.z,.int .i64 x.n].toArray 55))) hb.size));have HL:=J1 (fun k hk=>(hown.lt k hk).1);clear gx hx hown hb hnw hlt
   go_wp2_with (first
    | (at_builtin;refine M5 _ rfl _ _ 172 rfl w.heap.size 55 i0 (.agg #[z9,z9,z9,false,z9]) 5 40 Tryz.underlying172 hi hz0 hz1 hz2 rfl (by decide) _ q _ rfl HO.out _ 1 [x.k,x.t,x.c,x.z,x.n] rfl hcm.out (A2w x) ?c3 ?c4 ?c5 ?_))
   case c3=>unfold maxLen;omega
   case c4=>omega
   case c5=>simpa using HB.out.size
   intro v1 w5 hown1 hgrow;have hb5:Below w w w5:=HB.out.grown hgrow HB.out.size HL.out
   have hown5:w5.ownsRow w.heap.size 55 5 v1 (q+1) (tmCells ((ks.map Prod.fst).take (q+1))):=by rw[HT.out];exact hown1
   clear hown1 hgrow y0 y1 y2 y3 y4 y5 y6 y7 y8 y9;go_wp2_with fail
   go_roundw
   case rel=>exact⟨q+1,v1,by omega,by go_num,rfl,hown5,hb5⟩
   case measure=>simp[intOf];omega
  ·have hres:=J1 (show OwnTms w (ks.map Prod.fst) (.returned u) wr from⟨u,rfl,by
    rw[C7 (by rw[E0];have:=HN.out;omega)]at hown
    rw[E0,←HN.out]
    obtain rfl:q=n:=by omega
    exact hown,hb⟩)
   have i2:¬((q:Int)<(n:Int)):=by omega
   clear hown hb hlt;go_wp2_with fail;go_ret;exact hres.out
theorem A5M (kv:Value) (ks:List (Tm × Tm)) (w:World) (hk:KysAt w kv ks) (hn100:ks.length≤1000) :
  Calls Tryz.prog 137 #[kv,.int .i64 1] w (OwnTms w (ks.map Prod.snd)):=by
 obtain⟨i0,hi,hz0,hz1,hz2⟩:=info_parts Tryz.infoTerm15;obtain⟨K0,c0,rfl,_⟩:=hk.form;obtain⟨n,hn⟩:∃n,n=ks.length:=⟨_,rfl⟩;rw[←hn]at hk hn100 ⊢;have HK:=J1 hk;have HN:=J1 hn;clear hk hn;go_enter Tryz.func137,Tryz.ntmps137;go_wp2_with fail
 go_loopw [5,10] (fun s i wr=>∃(q:Nat) (u:Value),q≤n∧i=.int .i64 q∧u=s∧wr.ownsRow w.heap.size 55 5 u q (tmCells ((ks.map Prod.snd).take q))∧Below w w wr) (fun _ i _=>n-(intOf i).toNat)
 case atStart=>exact⟨0,_,E3 _,rfl,rfl,World.ownsRow_nil _ _ _ _,Below.refl _ _⟩
 case round =>
  obtain⟨q,u,hq,rfl,rfl,hown,hb⟩:=hrel
  by_cases hlt:q<n
  ·obtain⟨⟨x,y⟩,gx⟩:∃x,ks[q]?=some x:=⟨ks[q]'(by have:=HN.out;omega),A8 _⟩
   obtain⟨b,o,p,rfl,hx⟩:=HK.out.at_ gx;obtain⟨y0,y1,y2,y3,y4,y5,y6,y7,y8,y9⟩:=hx wr hb
   have HT:=J1 (show tmCells ((ks.map Prod.snd).take (q+1))=tmCells ((ks.map Prod.snd).take q)++y.cells by rw[D7,F5,gx];exact A0V _ _)
   have i1:(0:Int)≤(q:Int):=by omega
   have i2:(q:Int)<(n:Int):=by omega
   have hnw:=(J6 wr (Obj.cells #[x.k,x.t,x.c,x.z,x.n,y.k,y.t,y.c,y.z,y.n] 188))
   have hcm:=J1 (CameN.new (wr.alloc (Obj.cells #[x.k,x.t,x.c,x.z,x.n,y.k,y.t,y.c,y.z,y.n] 188)) 55 5 1 [y.k,y.t,y.c,y.z,y.n] (wr.heap.size+1) (by rw[J2]) rfl)
   have HO:=J1 ((hown.alloc (Obj.cells #[x.k,x.t,x.c,x.z,x.n,y.k,y.t,y.c,y.z,y.n] 188)).alloc (Obj.cells [.int .i64 y.k,.int .i64 y.t,.int .i64 y.c,.bool y.z,.int .i64 y.n].toArray 55));have HB:=J1 (hb.trans (M9 (J5 hnw (J6 (wr.alloc (Obj.cells #[x.k,x.t,x.c,x.z,x.n,y.k,y.t,y.c,y.z,y.n] 188)) (Obj.cells [.int .i64 y.k,.int .i64 y.t,.int .i64 y.c,.bool y.z,.int .i64 y.n].toArray 55))) hb.size));have HL:=J1 (fun k hk=>(hown.lt k hk).1);clear gx hx hown hb hnw hlt
   go_wp2_with (first
    | (at_builtin;refine M5 _ rfl _ _ 172 rfl w.heap.size 55 i0 (.agg #[z9,z9,z9,false,z9]) 5 40 Tryz.underlying172 hi hz0 hz1 hz2 rfl (by decide) _ q _ rfl HO.out _ 1 [y.k,y.t,y.c,y.z,y.n] rfl hcm.out (A2w y) ?c3 ?c4 ?c5 ?_))
   case c3=>unfold maxLen;omega
   case c4=>omega
   case c5=>simpa using HB.out.size
   intro v1 w5 hown1 hgrow;have hb5:Below w w w5:=HB.out.grown hgrow HB.out.size HL.out
   have hown5:w5.ownsRow w.heap.size 55 5 v1 (q+1) (tmCells ((ks.map Prod.snd).take (q+1))):=by rw[HT.out];exact hown1
   clear hown1 hgrow y0 y1 y2 y3 y4 y5 y6 y7 y8 y9;go_wp2_with fail
   go_roundw
   case rel=>exact⟨q+1,v1,by omega,by go_num,rfl,hown5,hb5⟩
   case measure=>simp[intOf];omega
  ·have hres:=J1 (show OwnTms w (ks.map Prod.snd) (.returned u) wr from⟨u,rfl,by
    rw[C7 (by rw[E0];have:=HN.out;omega)]at hown
    rw[E0,←HN.out]
    obtain rfl:q=n:=by omega
    exact hown,hb⟩)
   have i2:¬((q:Int)<(n:Int)):=by omega
   clear hown hb hlt;go_wp2_with fail;go_ret;exact hres.out
end Go.Proofs.YtbddhkgbpjhhaaaGreatDoor
namespace Go.Proofs.YtbddhkgbpjhhaaaGreatDoor
open Go.RowKit Go.Sort
def Hs.I64 (n:Int):Prop:=-9223372036854775808≤n∧n≤9223372036854775807
theorem Hs.prt_le {v:Vl} (h:Hs.I64 v.2):(Hs.prt v).length≤21:=by
 unfold Hs.prt
 split
 ·decide
 ·exact Lib.itoa_length_le _ h.1 h.2
theorem Hs.text_le {rs:List (List Vl)}:∀(xs:List Tm),(∀x∈xs,Hs.I64 (Te.val x rs).2)→(Hs.text xs rs).length≤xs.length*22
 | [],_=>by simp[Hs.text]
 | x::xs,h=>by
  have h1:=Hs.text_le xs fun y hy=>h y (F7 _ hy);have h2:=Hs.prt_le (h x E9)
  have e:Hs.text (x::xs) rs=(Hs.prt (Te.val x rs)++[44])++Hs.text xs rs:=by unfold Hs.text;rw[E5]
  rw[e,C6,C6,G5];simp only[G5,List.length_nil];omega
theorem Hs.key_le {rs:List (List Vl)} {xs:List Tm} {k:List UInt8} (h:Hs.key xs rs=some k) (hi:∀x∈xs,Hs.I64 (Te.val x rs).2):k.length≤xs.length*22:=by
 unfold Hs.key at h
 split at h
 ·cases h
 ·cases h;exact Hs.text_le xs hi
def KeyIs (w:World) (k:Option (List UInt8)) (E:Ending) (w':World):Prop :=
 E=.returned (.tuple #[.string ⟨(k.getD []).toArray⟩,k.isSome])∧Below w w w'
theorem A4U (tv v:Value) (xs:List Tm) (rs:List (List Vl)) (w:World) (ht:TmsAt w tv xs) (hv:Rws w v rs) (hP:Pows w) (hi:∀x∈xs,Hs.I64 (Te.val x rs).2) (hn:xs.length≤1000) :
  Calls Tryz.prog 139 #[tv,v] w (KeyIs w (Hs.key xs rs)):=by
 obtain⟨A0,c0,rfl,_⟩:=ht.form;obtain⟨W0,hW0⟩:∃W0,W0=w.alloc (.cells #[.pointer none,()] 192):=⟨_,rfl⟩;obtain⟨n,hnn⟩:∃n,n=xs.length:=⟨_,rfl⟩;rw[←hnn]at ht hn ⊢;have h0:=A7e w;have hb0:=J6 w (.cells #[.pointer none,()] 192);rw[←hW0]at h0 hb0;have HT:=J1 ht;have HV:=J1 hv;have HP:=J1 hP;have HI:=J1 hi;have HN:=J1 hnn;have HW:=J1 hW0
 have HS0:=J1 (show W0.heap.size=w.heap.size+1 by rw[hW0,J2])
 have H0:=J1 (Wr.refl h0);have HB0:=J1 hb0;clear ht hv hP hi hnn hW0 h0 hb0;go_enter Tryz.func139,Tryz.ntmps139;go_wp2_with fail;rw[←HW.out]
 go_loopw [12] (fun i wr=>∃q:Nat,q≤n∧i=.int .i64 q∧Hid (Hs.nulls (xs.take q) rs=false)∧Wr w.heap.size w.heap.size (Hs.text (xs.take q) rs) W0 wr) (fun i _=>n-(intOf i).toNat)
 case atStart=>exact⟨0,E3 _,rfl,J1 rfl,H0.out⟩
 case round =>
  obtain⟨q,hq,rfl,HZ,hwr⟩:=hrel
  have hBr:w.heap.size≤wr.heap.size:=by have:=hwr.low.size;have:=HS0.out;omega
  have hlt0:w.heap.size<wr.heap.size:=by
   rcases hwr.bld with h | h
   ·exact h.lt
   ·exact h.lt
  have hbW:Below w w wr:=HB0.out.trans hwr.low
  by_cases hlt:q<n
  ·obtain⟨x,gx⟩:∃x,xs[q]?=some x:=⟨xs[q]'(by have:=HN.out;omega),A8 _⟩
   obtain⟨b,o,p,rfl,hx⟩:=HT.out.at_ gx;obtain⟨y0,y1,y2,y3,y4⟩:=hx wr hbW
   have i1:(0:Int)≤(q:Int):=by omega
   have i2:(q:Int)<(n:Int):=by omega
   have hb1:=J6 wr (Obj.cells #[x.k,x.t,x.c,x.z,x.n] 55);have hw1:=hwr.grown hBr hb1;have hb01:Below w w (wr.alloc (Obj.cells #[x.k,x.t,x.c,x.z,x.n] 55)):=hbW.trans (M9 hb1 hBr);have co:=A2u x.k x.t x.c x.z x.n v rs _ (HV.out.below hb01 (C3 _));have hmm:Hs.I64 (Te.val x rs).2:=HI.out x (C8 gx);have htk:=Hs.text_take (t:=rs) gx;have hnk:=Hs.nulls_take (t:=rs) gx;have hnm:=Hs.nulls_mem (t:=rs) gx;have hle:=Hs.text_le (rs:=rs) (xs.take q) fun y hy=>HI.out y (List.mem_of_mem_take hy);rw[E4]at hle;change Calls Tryz.prog _ _ _ (fun e w'=>e=.returned (.agg #[.bool (Te.val x rs).1,.int .i64 (Te.val x rs).2])∧_)at co;obtain⟨⟨z,m⟩,hzm⟩:∃zm,zm=Te.val x rs:=⟨_,rfl⟩;rw[←hzm]at co hmm htk hnk hnm;dsimp only at co hmm hnk hnm;rw[HZ.out,Bool.false_or]at hnk
   have hS1:w.heap.size≤(wr.alloc (Obj.cells #[x.k,x.t,x.c,x.z,x.n] 55)).heap.size:=by simp;omega
   have HW1:=J1 hw1;have HB01:=J1 hb01;have HTK:=J1 htk;have HNK:=J1 hnk;have HS1:=J1 hS1
   have hle2:(Hs.text (xs.take q) rs).length≤22000:=by omega
   have HLE:=J1 hle2;clear gx hx hb1 hw1 hb01 htk hnk hzm HZ hwr hlt0 hS1 hle hle2 hlt
   cases z with
   | true =>
    have HNM:=J1 (Hs.key_null (hnm rfl));clear hnm;go_wp2_with fail;refine co.mono ?_;rintro e w2 ⟨rfl,hb2⟩;have HB2:=J1 (HB01.out.trans (M9 hb2 HS1.out));have HS2:=J1 (D5 HS1.out hb2.size);clear co hb2 y0 y1 y2 y3 y4;go_wp2_with fail
    go_ret2
    rw[HNM.out];exact⟨rfl,HB2.out.alloc HS2.out _⟩
   | false =>
    clear hnm;have HMM:=J1 hmm;go_wp2_with fail;refine co.mono ?_;rintro e w2 ⟨rfl,hb2⟩;obtain⟨W3,hW3⟩:∃W3,W3=w2.alloc (Obj.cells #[false,m] 53):=⟨_,rfl⟩;obtain⟨l3,hb3⟩:=L5 (cs:=[false,m]) hW3;have hb13:=J5 hb2 hb3;have hw3:=HW1.out.grown HS1.out hb13;have HB3:=J1 (HB01.out.trans (M9 hb13 HS1.out));have HS3:=J1 (D5 HS1.out hb13.size);have HW3:=J1 hw3;have HEQ:=J1 hW3;have cp:=A6u false m W3 HMM.out.1 HMM.out.2 (HP.out.below HB3.out (C3 _));have k0:=l3.c 0 rfl;have k1:=l3.c 1 rfl;rw[hW3]at k0 k1;clear co hb2 y0 y1 y2 y3 y4 hW3 l3 hb3 hb13 hw3;go_wp2_with fail;rw[←HEQ.out];refine cp.mono ?_;rintro e w4 ⟨rfl,hb4⟩;have hw4:=HW3.out.grown HS3.out hb4;have HS4:=J1 (D5 HS3.out hb4.size);have hpl:(prt false m).length≤21:=Hs.prt_le (v:=(false,m)) HMM.out
    have cs:=A3O w.heap.size w.heap.size _ (prt false m) w4 hw4.bld (by have:=HLE.out;omega) HS4.out
    have HW4:=J1 hw4;have HPL:=J1 hpl;clear cp k0 k1 hb4 hw4 hpl;go_wp2_with fail;refine cs.mono ?_;rintro e w5 ⟨⟨n5,rfl⟩,h5⟩;have hw5:=HW4.out.trans h5;have HS5:=J1 (D5 HS4.out (h5.low.size))
    have cb:=A55 w.heap.size w.heap.size _ 44 w5 hw5.bld (by rw[C6];have:=HLE.out;have:=HPL.out;omega) HS5.out
    rw[show(((44:UInt8).toNat:Nat):Int)=44 from rfl]at cb
    have HW5:=J1 hw5;clear cs h5 hw5;go_wp2_with fail;refine cb.mono ?_;rintro e w6 ⟨rfl,h6⟩;have hw6:=HW5.out.trans h6
    have HF:=J1 (show Wr w.heap.size w.heap.size (Hs.text (xs.take (q+1)) rs) W0 w6 by
     rw[HTK.out,←D4];exact hw6)
    clear cb h6 hw6;go_wp2_with fail
    go_roundw
    case rel=>exact⟨q+1,by omega,by go_num,HNK,HF.out⟩
    case measure=>simp[intOf];omega
  ·have hres:=J1 (show Hs.key xs rs=some (Hs.text (xs.take q) rs) from by
    have hz:=HZ.out
    rw[C7 (by have:=HN.out;omega)]at hz ⊢
    exact Hs.key_some hz)
   have i2:¬((q:Int)<(n:Int)):=by omega
   have cs:=Tryz.Builder_String_any_k w.heap.size w.heap.size (Hs.text (xs.take q) rs) wr hwr.bld hBr;have HBW:=J1 hbW;clear hlt hwr hbW hlt0;go_wp2_with fail;refine cs.mono ?_;rintro e w4 ⟨rfl,_,h4,_⟩;clear cs;go_wp2_with fail
   go_ret2
   rw[hres.out];exact⟨rfl,HBW.out.trans h4⟩
end Go.Proofs.YtbddhkgbpjhhaaaGreatDoor
