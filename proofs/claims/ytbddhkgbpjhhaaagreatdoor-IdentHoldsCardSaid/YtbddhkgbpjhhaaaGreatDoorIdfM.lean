/-
  PACKAGE ident: tour.
-/
import Derived.Test.YtbddhkgbpjhhaaaGreatDoorIdeM
import Derived.Test.YtbddhkgbpjhhaaaGreatDoorIdyaM
set_option maxHeartbeats 6400000
set_option maxRecDepth 100000
namespace Go.Proofs.YtbddhkgbpjhhaaaGreatDoor
open Go.RowKit Go.Sort
theorem _root_.Go.RowKit.Below.trans17 {a b c:World} (h:Below a a b) (k:Below b b c):Below a a c:=J5 h k
def Toured (H:List Tr→(Nat→Prop)→World→Prop) (a:Tr) (L:List Tr) (O:Nat→Prop) (w:World) (E:Ending) (w':World):Prop :=
 (∃r,E=.returned r)∧∃O',H (L++Id.ways a) O' w'∧Keeps (fun k=>¬O k) w w'∧∀k,O' k→O k∨w.heap.size≤k
def Id.parts (a:Tr) (q:Nat):List Tr:=(List.range q).flatMap fun i=>match a.ks[i]? with
 | some b=>(Id.ways b).map (R6 a i)
 | none=>[]
theorem Id.parts_succ {a b:Tr} {q:Nat} (h:a.ks[q]?=some b):Id.parts a (q+1)=Id.parts a q++(Id.ways b).map (R6 a q):=by
 unfold Id.parts;rw[List.range_succ,List.flatMap_append,E5,List.flatMap_nil,F3,h]
theorem Id.ways_parts {a x y:Tr} (h:a.ks=[x,y]):Id.ways a=Id.here a++Id.parts a 2:=by
 rw[Id.ways_two h,Id.parts_succ (b:=y) (by rw[h];rfl),Id.parts_succ (b:=x) (by rw[h];rfl),Id.around_zero h,Id.around_one h]
 rfl
theorem Id.chs_len (a:Tr) (q:Nat):(Id.chs a q).length≤(Id.here a).length:=((List.take_sublist q [1,2,3,4,5]).filterMap fun h=>Id.doo h a).length_le
theorem Id.here_ways (a:Tr):(Id.here a).length≤(Id.ways a).length:=by
 by_cases h:a.ks.length=2
 ·obtain⟨x,y,hk⟩:∃x y,a.ks=[x,y]:=by
   match hkk:a.ks,h with
   | [x,y],_=>exact⟨x,y,rfl⟩
  rw[Id.ways_two hk,C6,C6];omega
 ·rw[Id.ways_not h];exact C3 _
theorem Id.parts_len {a b x y:Tr} {q:Nat} (hk:a.ks=[x,y]) (h:a.ks[q]?=some b):(Id.here a).length+(Id.parts a q).length+(Id.ways b).length≤(Id.ways a).length:=by
 have hq:q<2:=by have:=(D8.1 h).1;rw[hk]at this;exact this
 have h1:=congrArg List.length (Id.parts_succ h);rw[C6,E0]at h1;have h2:=congrArg List.length (Id.ways_parts hk);rw[C6]at h2
 have h3:=congrArg List.length (Id.parts_succ (a:=a) (b:=y) (q:=1) (by rw[hk];rfl))
 rw[C6,E0]at h3;simp only[Nat.reduceAdd]at h3
 obtain rfl | rfl:q=0∨q=1:=by omega
 ·simp only[G6]at h1;omega
 ·simp only[Nat.reduceAdd]at h1;omega
theorem Chgs.keep {S:Nat→Prop} {w w':World} (h:Chgs w) (hk:Keeps S w w') (hs:S 0):Chgs w':=fun j v hj=>hk.cell_any hs (h j v hj)
theorem Want.keep {S:Nat→Prop} {w w':World} (h:Want w) (hk:Keeps S w w') (hs:S 2):Want w':=fun q p hq hp=>hk.cell_any hs (h q p hq hp)
theorem A8y (m:Nat):∀(z:Nd) (S:Nat→Prop) (H:List Tr→(Nat→Prop)→World→Prop) (f:FuncId) (cs:Array Value) (B:Nat) (_:Hand (Tr.size z.a) B S H f cs) (T:Nat→Prop) (L:List Tr) (O:Nat→Prop) (w:World),L.length+(Id.ways z.a).length≤B →
  Tr.size z.a≤m→Tr.size z.a≤1000→H L O w→TNd T w z→(∀k,T k→k<w.heap.size∧¬O k)→¬O 0→¬O 2→Chgs w→Want w →
  Calls Tryz.prog 29 #[.agg #[z.a.k,z.a.t,.slice z.uA z.uN z.uC,.slice z.pA z.pN z.pC,z.a.h,.int .u64 (z.n:Int),.slice z.xA z.xN z.xC],.func (.func f) #[] cs] w (Toured H z.a L O w):=by
 induction m with
 | zero=>intro z _ _ _ _ _ _ _ _ _ _ _ h0;exact absurd h0 (by have:=Tr.size_at z.a;omega)
 | succ m ih =>
 intro z S H f cs B hh T L O w hLB hm hsz hH hz hT hcO hwO hC hW;have hent:=hh.enter;obtain⟨W0,hW0⟩:∃W0,W0=(w.alloc (Obj.cells #[z.a.k,z.a.t,.slice z.uA z.uN z.uC,.slice z.pA z.pN z.pC,z.a.h,.int .u64 (z.n:Int),.slice z.xA z.xN z.xC] 68)).alloc (Obj.cells #[.func (.func f) #[] cs] 71):=⟨_,rfl⟩;obtain⟨l0,l1,hb0⟩:=Q0 (cs:=[z.a.k,z.a.t,.slice z.uA z.uN z.uC,.slice z.pA z.pN z.pC,z.a.h,.int .u64 (z.n:Int),.slice z.xA z.xN z.xC]) (ds:=[.func (.func f) #[] cs]) hW0
 have hs0:W0.heap.size=w.heap.size+1+1:=by rw[hW0,J2,J2]
 have cc:=A05 W0;have HW:=J1 hW0;have HB0:=J1 hb0;have HL0:=J1 l0;have HL1:=J1 l1;have HS0:=J1 hs0;have HH:=J1 hh;have HHH:=J1 hH;have HT0:=J1 hT;have HZ0:=J1 hz;have HC0:=J1 hC;have HWA0:=J1 hW;have HSZ:=J1 hsz;have HLB:=J1 hLB;have HM:=J1 hm;have HCO:=J1 hcO;have HWO:=J1 hwO;have IH:=J1 ih;clear hLB hh hH hT hz hC hW hsz hm hcO hwO ih hW0 l0 l1 hb0 hs0;go_enter Tryz.func29,Tryz.ntmps29
 go_upto_region 1 with(fail)
 rw[←HW.out];go_wp2_with fail;refine cc.mono ?_;rintro E w1 ⟨rfl,lc,hb1⟩;clear cc;have hown:=HH.out.own _ _ _ HHH.out;have hbw1:=J5 HB0.out hb1
 have hs1:w.heap.size+1+1<w1.heap.size:=by have:=lc.lt;have:=HS0.out;omega
 have hlO:∀k,w.heap.size≤k→¬O k:=fun k hk h=>by have:=(hown k).1 h;omega
 have HH1:=J1 (HH.out.keep L O w w1 HHH.out ⟨hbw1.os,hbw1.tape,hbw1.output,hbw1.size,fun k hk _=>hbw1.block k hk⟩)
 have HN:=J1 (fun W (h:Keeps (fun k=>¬O k) w1 W)=>(HL0.out.below hb1 (by have:=HS0.out;omega)).keeps h (hlO _ (C3 _)))
 have HHB:=J1 (fun W (h:Keeps (fun k=>¬O k) w1 W)=>(HL1.out.below hb1 (by have:=HS0.out;omega)).keeps h (hlO _ (by omega)))
 have HLC:=J1 (fun W (h:Keeps (fun k=>¬O k) w1 W)=>lc.keeps h (hlO _ (by have:=HS0.out;omega)))
 have HZ:=J1 (fun W (h:Keeps (fun k=>¬O k) w1 W)=>(HZ0.out.below hbw1).keep (T':=T) h.size fun k hk hlt=>⟨h.same k hlt (HT0.out k hk).2,hk⟩);have HC:=J1 (fun W (h:Keeps (fun k=>¬O k) w1 W)=>(HC0.out.below hbw1 (C3 _)).keep h HCO.out);have HWA:=J1 (fun W (h:Keeps (fun k=>¬O k) w1 W)=>(HWA0.out.below hbw1 (C3 _)).keep h HWO.out)
 have HS1:=J1 (show w.heap.size≤w1.heap.size by omega)
 have HBW1:=J1 hbw1;have HS2:=J1 hs1;have HLO:=J1 hlO;clear hown hbw1 hs1 hlO lc hb1;go_wp2_with fail
 go_loopw [12] (fun i wr=>∃(q:Nat) (O1:Nat→Prop),q≤5∧i=.int .i64 q∧H (L++Id.chs z.a q) O1 wr∧Keeps (fun k=>¬O k) w1 wr∧∀k,O1 k→O k∨w1.heap.size≤k) (fun i _=>5-(intOf i).toNat)
 case atStart=>exact⟨0,O,E3 _,rfl,by rw[show Id.chs z.a 0=[] from rfl,F3];exact HH1.out,Keeps.refl _ _,fun k h=>.inl h⟩
 case round =>
   obtain⟨q,O1,hq,rfl,hH1,hk1,hO1⟩:=hrel
   by_cases hlt:q<5
   ·have i2:(q:Int)<5:=by omega
    obtain⟨c0,c1,c2,c3⟩:=A96 q hlt;obtain⟨mm,hm⟩:∃m:Int,m=((q+1:Nat):Int):=⟨_,rfl⟩;rw[←hm]at c0;have lcr:=HLC.out wr hk1;have x0:=lcr.cell c0;have x1:=lcr.cell c1;have x2:=lcr.cell c2;have x3:=lcr.cell c3;obtain⟨W2,hW2⟩:∃W2,W2=wr.alloc (Obj.cells #[mm,.func (.func (chA q)) #[] #[],.func (.func (chH q)) #[] #[],.func (.func (chM q)) #[] #[]] 86):=⟨_,rfl⟩;obtain⟨l2,hb2⟩:=L5 (cs:=[mm,.func (.func (chA q)) #[] #[],.func (.func (chH q)) #[] #[],.func (.func (chM q)) #[] #[]]) hW2;have hk2:Keeps (fun k=>¬O k) w1 W2:=hk1.trans ⟨hb2.os,hb2.tape,hb2.output,hb2.size,fun k hk _=>hb2.block k hk⟩
    have hOn:∀k,T k→k<W2.heap.size∧¬O1 k:=fun k hk=>⟨C9 (C9 (HT0.out k hk).1 HS1.out) hk2.size,fun h=>(hO1 k h).elim (HT0.out k hk).2 (fun h2=>by have:=(HT0.out k hk).1;have:=HS1.out;omega)⟩
    have cd:=(A68 q hlt T z W2 (HZ.out W2 hk2) (fun k hk=>(hOn k hk).1) HSZ.out (HC.out W2 hk2) (HWA.out W2 hk2));rw[←hm]at cd;have hH2:=HH.out.keep _ _ _ W2 hH1 ⟨hb2.os,hb2.tape,hb2.output,hb2.size,fun k hk _=>hb2.block k hk⟩;have hO1l:=fun k h=>(HH.out.own _ _ _ hH1 k).1 h;have HO1L:=J1 hO1l;have HON:=J1 hOn;have HH2:=J1 hH2;have HK2:=J1 hk2;have HW2:=J1 hW2;have HB2:=J1 hb2;have HM2:=J1 hm;have HO1:=J1 hO1;have y0:=l2.c 0 rfl;have y1:=l2.c 1 rfl;have y2:=l2.c 2 rfl;have y3:=l2.c 3 rfl;have lnr:=HN.out W2 hk2;have n0:=lnr.c 0 rfl;have n1:=lnr.c 1 rfl;have n2:=lnr.c 2 rfl;have n3:=lnr.c 3 rfl;have n4:=lnr.c 4 rfl;have n5:=lnr.c 5 rfl;have n6:=lnr.c 6 rfl;clear c0 c1 c2 c3 lcr lnr hm l2 hb2 hW2 hk2 hOn hH2 hH1 hk1 hO1 hO1l
    go_upto_region 4 with(fail)
    rw[←HW2.out];go_wp2_with fail;refine cd.mono ?_;clear x0 x1 x2 x3 y0 y1 y2 y3 n0 n1 n2 n3 n4 n5 n6 cd
    rintro E w3 (⟨y,hdo,rfl,hty,hb3⟩ | ⟨hdo,rfl,hb3⟩)
    ·skip
     obtain⟨W5,hW5⟩:∃W5,W5=w3.alloc (Obj.cells #[y.a.k,y.a.t,.slice y.uA y.uN y.uC,.slice y.pA y.pN y.pC,y.a.h,.int .u64 (y.n:Int),.slice y.xA y.xN y.xC] 68):=⟨_,rfl⟩
     have hb5:Below w3 w3 W5:=by rw[hW5];exact J6 _ _
     replace hb3:=hb3.trans17 hb5;replace hW5:=J1 hW5
     have hl5:Lies W5 w3.heap.size 68 [y.a.k,y.a.t,.slice y.uA y.uN y.uC,.slice y.pA y.pN y.pC,y.a.h,.int .u64 (y.n:Int),.slice y.xA y.xN y.xC]:=by rw[hW5.out];exact Lies.new _ _ _
     have m0:=hl5.c 0 rfl;have m1:=hl5.c 1 rfl;have m2:=hl5.c 2 rfl;have m3:=hl5.c 3 rfl;have m4:=hl5.c 4 rfl;have m5:=hl5.c 5 rfl;have m6:=hl5.c 6 rfl;have hH3:=HH.out.keep _ _ _ W5 HH2.out ⟨hb3.os,hb3.tape,hb3.output,hb3.size,fun k hk _=>hb3.block k hk⟩;have hk3:Keeps (fun k=>¬O k) w1 W5:=HK2.out.trans ⟨hb3.os,hb3.tape,hb3.output,hb3.size,fun k hk _=>hb3.block k hk⟩
     have ch:=HH.out.call _ O1 W5 y.a y.u y.p hH3 (TNd.tr ((hty.below hb5).mono (T':=fun k=>¬O1 k) fun k hk _ h=>by
      rcases hk with hk | hk
      ·exact(HON.out k hk).2 h
      ·have:=HO1L.out k h;have:=HB2.out.size;omega)) (Id.doo_size hdo) (by
      have h1:=Id.chs_len z.a (q+1);rw[Id.chs_some hlt hdo,C6,List.length_singleton]at h1;have h2:=Id.here_ways z.a;have h3:=HLB.out;rw[C6];omega)
     have lhb:=HHB.out W5 hk3;have g0:=lhb.c 0 rfl;have HK3:=J1 hk3;have HDO:=J1 hdo;clear hk3 hdo hH3 lhb hty hl5 hb5 hb3;have CH:=J1 ch;clear ch
     go_upto_region 5 with(fail)
     rw[←hW5.out];go_wp2_with fail;refine CH.out.mono ?_;rintro E w4 ⟨⟨r,rfl⟩,O4,hH4,hk4,hO4⟩
     have HREL:=J1 (show ∃(q':Nat) (O':Nat→Prop),q'≤5∧Value.int .i64 (mm:Int)=.int .i64 q'∧H (L++Id.chs z.a q') O' w4∧Keeps (fun k=>¬O k) w1 w4∧∀k,O' k→O k∨w1.heap.size≤k from
      ⟨q+1,O4,hlt,by rw[HM2.out],by rw[Id.chs_some hlt HDO.out,←D4];exact hH4,⟨hk4.os.trans HK3.out.os,hk4.tape.trans HK3.out.tape,hk4.output.trans HK3.out.output,D5 HK3.out.size hk4.size,fun k hk hn=>(hk4.same k (C9 hk HK3.out.size) (fun h=>(HO1.out k h).elim hn (fun h2=>by omega))).trans (HK3.out.same k hk hn)⟩,fun k h=>(hO4 k h).elim (HO1.out k) (fun h2=>.inr (D5 HK3.out.size h2))⟩)
     clear hH4 hk4 hO4 CH g0;go_wp2_with fail
     go_roundw
     case rel=>rw[show(q:Int)+1=mm by rw[HM2.out];simp];exact HREL.out
     case measure=>simp[intOf];omega
    ·skip
     obtain⟨W5,hW5⟩:∃W5,W5=w3.alloc (Obj.cells #[z9,z9,(),(),false,.int .u64 0,()] 68):=⟨_,rfl⟩
     have hb5:Below w3 w3 W5:=by rw[hW5];exact J6 _ _
     replace hb3:=hb3.trans17 hb5;replace hW5:=J1 hW5
     have HREL:=J1 (show ∃(q':Nat) (O':Nat→Prop),q'≤5∧Value.int .i64 (mm:Int)=.int .i64 q'∧H (L++Id.chs z.a q') O' W5∧Keeps (fun k=>¬O k) w1 W5∧∀k,O' k→O k∨w1.heap.size≤k from
      ⟨q+1,O1,hlt,by rw[HM2.out],by rw[Id.chs_none hlt hdo];exact HH.out.keep _ _ _ W5 HH2.out ⟨hb3.os,hb3.tape,hb3.output,hb3.size,fun k hk _=>hb3.block k hk⟩,HK2.out.trans ⟨hb3.os,hb3.tape,hb3.output,hb3.size,fun k hk _=>hb3.block k hk⟩,HO1.out⟩)
     clear hdo hb3 hb5
     go_upto_region 5 with(fail)
     rw[←hW5.out];go_wp2_with fail
     go_roundw
     case rel=>rw[show(q:Int)+1=mm by rw[HM2.out];simp];exact HREL.out
     case measure=>simp[intOf];omega
   ·obtain rfl:q=5:=by omega
    rw[show((5:Nat):Int)=5 from rfl]
    have lnr:=HN.out wr hk1;have n6:=lnr.c 6 rfl;have HZR:=J1 (HZ.out wr hk1);rw[Id.chs_five]at hH1
    have HKX:=J1 (show z.xN=z.a.ks.length from HZ0.out.xN)
    have HH1:=J1 hH1;have HK1:=J1 hk1;have HO1:=J1 hO1;clear lnr hH1 hk1 hO1 hlt hq
    by_cases h2:z.a.ks.length=2
    ·obtain⟨x,y,hxy⟩:∃x y,z.a.ks=[x,y]:=by
      match hkk:z.a.ks,h2 with
      | [x,y],_=>exact⟨x,y,rfl⟩
     have hx2:z.xN=2:=HKX.out.trans h2;rw[hx2]at n6;have HXY:=J1 hxy;clear h2 hx2 hxy
     obtain⟨g,o,sl,_,hxA,_⟩:=HZR.out.kid (j:=0) (b:=x) (by rw[HXY.out];rfl)
     rw[hxA]at n6;have HXA:=J1 hxA;clear hxA
     have HGC:=J1 (show 0<w.heap.size from block_lt_of_cell (HC0.out 0 _ (show Id.cells[0]?=some _ from rfl)))
     have HGW:=J1 (show 2<w.heap.size from block_lt_of_cell (HWA0.out 0 0 (by decide) (by decide)))
     go_wp2_with fail;clear n6
     go_loopw [35] (fun i wl=>∃(q:Nat) (O2:Nat→Prop),q≤2∧i=.int .i64 q∧H (L++(Id.here z.a++Id.parts z.a q)) O2 wl∧Keeps (fun k=>¬O k) w1 wl∧∀k,O2 k→O k∨w1.heap.size≤k) (fun i _=>2-(intOf i).toNat)
     case atStart=>exact⟨0,O1,E3 _,rfl,by rw[show Id.parts z.a 0=[] from rfl,F3];exact HH1.out,HK1.out,HO1.out⟩
     case round =>
      obtain⟨q,O2,hq,rfl,hH2,hk2,hO2⟩:=hrel
      by_cases hlt:q<2
      ·have i1:(0:Int)≤(q:Int):=by omega
       have i2:(q:Int)<2:=by omega
       obtain⟨b,hb⟩:∃b,z.a.ks[q]?=some b:=⟨z.a.ks[q]'(by rw[HXY.out];exact hlt),A8 _⟩
       have hzl:=HZ.out _ hk2;obtain⟨g',o',s',yk,hxA,_,hglt,hya,hcell,hyt⟩:=hzl.kid hb
       obtain⟨rfl,rfl,rfl⟩:g=g'∧o=o'∧sl=s':=by
        have:=HXA.out.symm.trans hxA;simp only[Option.some.injEq,Addr.mk.injEq]at this;exact this
       obtain⟨W6,hW6⟩:∃W6,W6=(wr.alloc (Obj.cells #[(q:Int)] 3)).alloc (Obj.cells #[yk.a.k,yk.a.t,.slice yk.uA yk.uN yk.uC,.slice yk.pA yk.pN yk.pC,yk.a.h,.int .u64 (yk.n:Int),.slice yk.xA yk.xN yk.xC] 68):=⟨_,rfl⟩;obtain⟨l8,l9,hb6⟩:=Q0 (cs:=[(q:Int)]) (ds:=[yk.a.k,yk.a.t,.slice yk.uA yk.uN yk.uC,.slice yk.pA yk.pN yk.pC,yk.a.h,.int .u64 (yk.n:Int),.slice yk.xA yk.xN yk.xC]) hW6;obtain⟨x0,x1,x2,x3,x4,x5,x6⟩:=hcell;have hk6:Keeps (fun k=>¬O k) w1 W6:=hk2.trans ⟨hb6.os,hb6.tape,hb6.output,hb6.size,fun k hk _=>hb6.block k hk⟩;have hown:=HH.out.own _ _ _ hH2
       have hT2:∀k,T k→¬O2 k:=fun k hk h=>(hO2 k h).elim (HT0.out k hk).2 (fun h2=>by have:=(HT0.out k hk).1;have:=HS1.out;omega)
       have hlow:∀k,k<w1.heap.size→¬O k→¬O2 k:=fun k hk hn h=>(hO2 k h).elim hn (fun h2=>by omega)
       have hs2:=HS2.out
       have hak:Hand (Tr.size yk.a) (B-(L++(Id.here z.a++Id.parts z.a q)).length) (fun k=>S k∨T k∨k=w.heap.size∨k=wr.heap.size∨k=w.heap.size+1) (Arh H f cs T w.heap.size wr.heap.size (w.heap.size+1) z q (L++(Id.here z.a++Id.parts z.a q))) 53 #[.pointer (some ⟨w.heap.size,0,none⟩),.pointer (some ⟨wr.heap.size,0,none⟩),.pointer (some ⟨w.heap.size+1,0,none⟩)] :=
        HH.out.around T _ _ _ z x y HXY.out q hlt _ (fun t ht=>Id.around_size HXY.out hlt (fun b' hb'=>ht.trans (by rw[hya];rw[hb]at hb';cases hb';rfl)))
       have hah:Arh H f cs T w.heap.size wr.heap.size (w.heap.size+1) z q (L++(Id.here z.a++Id.parts z.a q)) [] O2 W6 :=
        ⟨by rw[List.map_nil,F3];exact HH.out.keep _ _ _ W6 hH2 ⟨hb6.os,hb6.tape,hb6.output,hb6.size,fun k hk _=>hb6.block k hk⟩,⟨HN.out W6 hk6,l8,HHB.out W6 hk6,HZ.out W6 hk6⟩,hT2,fun k hk=>C9 (HT0.out k hk).1 (D5 HS1.out hk6.size),hlow _ (by omega) (HLO.out _ (C3 _)),fun h=>by have:=(hown _).1 h;omega,hlow _ (by omega) (HLO.out _ (by omega))⟩
       have hsk:=Tr.sizes_at hb;have hsa:=Tr.size_at z.a
       have ck:=IH.out yk _ _ _ _ _ hak T [] O2 W6 (by have h1:=Id.parts_len HXY.out hb;have h2:=HLB.out;rw[hya,List.length_nil,C6,C6];omega) (by rw[hya];have:=HM.out;omega) (by rw[hya];have:=HSZ.out;omega) hah (hyt.below hb6) (fun k hk=>⟨C9 (HT0.out k hk).1 (D5 HS1.out hk6.size),hT2 k hk⟩) (hlow _ (C9 HGC.out HS1.out) HCO.out) (hlow _ (C9 HGW.out HS1.out) HWO.out) (HC.out W6 hk6) (HWA.out W6 hk6)
       have HL9:=J1 l9;have HK6:=J1 hk6;have HW6:=J1 hW6;have HO2:=J1 hO2;have HPS:=J1 (Id.parts_succ hb);have HYA:=J1 hya;have CK:=J1 ck;clear hb hzl hxA hglt hya hyt hW6 l8 l9 hb6 hk6 hown hT2 hlow hs2 hak hah hsk hsa ck hH2 hk2 hO2
       go_upto_region 12 with(fail)
       rw[←HW6.out];clear x0 x1 x2 x3 x4 x5 x6;have y0:=HL9.out.c 0 rfl;have y1:=HL9.out.c 1 rfl;have y2:=HL9.out.c 2 rfl;have y3:=HL9.out.c 3 rfl;have y4:=HL9.out.c 4 rfl;have y5:=HL9.out.c 5 rfl;have y6:=HL9.out.c 6 rfl;go_wp2_with fail;refine CK.out.mono ?_;rintro E w7 ⟨⟨r,rfl⟩,O7,hH7,hk7,hO7⟩
       have HREL:=J1 (show ∃(q':Nat) (O':Nat→Prop),q'≤2∧Value.int .i64 ((q:Int)+1)=.int .i64 q'∧H (L++(Id.here z.a++Id.parts z.a q')) O' w7∧Keeps (fun k=>¬O k) w1 w7∧∀k,O' k→O k∨w1.heap.size≤k from
        ⟨q+1,O7,hlt,by simp,by rw[HPS.out,←HYA.out,←D4,←D4,D4 L];exact hH7.up,⟨hk7.os.trans HK6.out.os,hk7.tape.trans HK6.out.tape,hk7.output.trans HK6.out.output,D5 HK6.out.size hk7.size,fun k hk hn=>(hk7.same k (C9 hk HK6.out.size) (fun h=>(HO2.out k h).elim hn (fun h2=>by omega))).trans (HK6.out.same k hk hn)⟩,fun k h=>(hO7 k h).elim (HO2.out k) (fun h2=>.inr (D5 HK6.out.size h2))⟩)
       clear hH7 hk7 hO7 CK y0 y1 y2 y3 y4 y5 y6;go_wp2_with fail
       go_roundw
       case rel=>exact HREL.out
       case measure=>simp[intOf];omega
      ·obtain rfl:q=2:=by omega
       have HRES:=J1 (show ∃O',H (L++Id.ways z.a) O' wr∧Keeps (fun k=>¬O k) w wr∧∀k,O' k→O k∨w.heap.size≤k from
        ⟨O2,by rw[Id.ways_parts HXY.out];exact hH2,(⟨HBW1.out.os,HBW1.out.tape,HBW1.out.output,HBW1.out.size,fun k hk _=>HBW1.out.block k hk⟩:Keeps (fun k=>¬O k) w w1).trans hk2,fun k h=>(hO2 k h).imp id (fun h=>D5 HS1.out h)⟩)
       clear hH2 hk2 hO2 hq hlt;go_wp2_with fail
       first | (refine bodyPost_ret (results_none rfl _ _ _) rfl ?_) | go_end0
       exact⟨⟨_,rfl⟩,HRES.out⟩
    ·have hnb:((z.xN:Int) == 2)=false:=by rw[HKX.out];simp;omega
     have HRES:=J1 (show ∃O',H (L++Id.ways z.a) O' wr∧Keeps (fun k=>¬O k) w wr∧∀k,O' k→O k∨w.heap.size≤k from
      ⟨O1,by rw[Id.ways_not h2];exact HH1.out,(⟨HBW1.out.os,HBW1.out.tape,HBW1.out.output,HBW1.out.size,fun k hk _=>HBW1.out.block k hk⟩:Keeps (fun k=>¬O k) w w1).trans HK1.out,fun k h=>(HO1.out k h).imp id (fun h=>D5 HS1.out h)⟩)
     clear h2;go_wp2_with fail
     first | (refine bodyPost_ret (results_none rfl _ _ _) rfl ?_) | go_end0
     exact⟨⟨_,rfl⟩,HRES.out⟩
end Go.Proofs.YtbddhkgbpjhhaaaGreatDoor
