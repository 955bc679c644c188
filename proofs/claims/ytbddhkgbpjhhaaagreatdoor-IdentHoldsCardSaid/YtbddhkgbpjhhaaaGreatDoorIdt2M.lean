/-
  PACKAGE ident: a node taken apart: first, second.
-/
import Derived.Test.YtbddhkgbpjhhaaaGreatDoorIdtM
import Derived.Test.YtbddhkgbpjhhaaaGreatDoorIdpM
import Derived.Test.YtbddhkgbpjhhaaaGreatDoorIdzM
import Derived.Test.YtbddhkgbpjhhaaaGreatDoorGBase
import Derived.Deep.Cut
import Derived.Deep.RegionHeld3
set_option maxHeartbeats 6400000
set_option maxRecDepth 100000
namespace Go.Proofs.YtbddhkgbpjhhaaaGreatDoor
open Go.RowKit Go.Sort
theorem A2k (T:Nat→Prop) (z:Nd) (w:World) (hz:TNd T w z) (hT:∀k,T k→k<w.heap.size) :
  Calls Tryz.prog 72 #[.agg #[z.a.k,z.a.t,.slice z.uA z.uN z.uC,.slice z.pA z.pN z.pC,z.a.h,.int .u64 (z.n:Int),.slice z.xA z.xN z.xC]] w (ApIs T 2 z.a w):=by
 have hxN:=hz.xN;obtain⟨za,zuA,zuN,zuC,zpA,zpN,zpC,zn,zxA,zxN,zxC⟩:=z;change zxN=za.ks.length at hxN;subst hxN;dsimp only;obtain⟨W0,hW0⟩:∃W0,W0=(w.alloc (Obj.cells #[za.k,za.t,.slice zuA zuN zuC,.slice zpA zpN zpC,za.h,.int .u64 (zn:Int),.slice zxA za.ks.length zxC] 68)).alloc (Obj.cells z35.toArray 123):=⟨_,rfl⟩;obtain⟨l0,l1,hb0⟩:=Q0 (cs:=[za.k,za.t,.slice zuA zuN zuC,.slice zpA zpN zpC,za.h,.int .u64 (zn:Int),.slice zxA za.ks.length zxC]) (ds:=z35) hW0;have HW:=J1 hW0;have HB0:=J1 hb0;have HZ:=J1 (hz.below hb0);have HL1:=J1 l1
 have HT:=J1 (show ¬T (w.heap.size+1) from fun h=>by have:=hT _ h;omega)
 have hap:Id.apart 2 za=Id.first za:=rfl
 by_cases h2:za.ks.length=2
 ·obtain⟨kl,kr,hk⟩:∃e f,za.ks=[e,f]:=by
   match hkk:za.ks,h2 with
   | [x,y],_=>exact⟨x,y,rfl⟩
  obtain⟨g0,o0,s0,yl,hA0,ht0,hlt0,hyl,cl,tl⟩:=(hz.below hb0).kid (j:=0) (b:=kl) (by show za.ks[0]?=_;rw[hk];rfl)
  change zxA=_ at hA0
  obtain⟨g9,o9,s9,yq,hA9,ht9,hlt9,hyq,cq,tq⟩:=(hz.below hb0).kid (j:=1) (b:=kr) (by show za.ks[1]?=_;rw[hk];rfl)
  change zxA=_ at hA9;rw[hA0]at hA9;cases hA9;subst hA0;obtain⟨la,luA,luN,luC,lpA,lpN,lpC,ln,lxA,lxN,lxC⟩:=yl;obtain⟨qa,quA,quN,quC,qpA,qpN,qpC,qn,qxA,qxN,qxC⟩:=yq;change la=kl at hyl;change qa=kr at hyq;subst hyl;subst hyq;have hlN:=tl.xN;change lxN=la.ks.length at hlN;subst hlN
  have hadd0:(⟨g0,o0,s0⟩:Addr).add (1*7)=⟨g0,o0+7,none⟩:=by unfold Addr.add;simp
  have HKP:=J1 (show g0<w.heap.size from hT _ ht0)
  have HL:=J1 tl;have HQ:=J1 tq
  by_cases h3:la.ks.length=2
  ·obtain⟨kx,ky,hk3⟩:∃e f,la.ks=[e,f]:=by
    match hkk:la.ks,h3 with
    | [x,y],_=>exact⟨x,y,rfl⟩
   obtain⟨g1,o1,s1,yx,hA1,ht1,hlt1,hyx,cx,tx⟩:=(tl).kid (j:=0) (b:=kx) (by show la.ks[0]?=_;rw[hk3];rfl)
   change lxA=_ at hA1
   obtain⟨g8,o8,s8,yy,hA8,ht8,hlt8,hyy,cy,ty⟩:=(tl).kid (j:=1) (b:=ky) (by show la.ks[1]?=_;rw[hk3];rfl)
   change lxA=_ at hA8;rw[hA1]at hA8;cases hA8;subst hA1;obtain⟨xa,xuA,xuN,xuC,xpA,xpN,xpC,xn,xxA,xxN,xxC⟩:=yx;obtain⟨ya,yuA,yuN,yuC,ypA,ypN,ypC,yn,yxA,yxN,yxC⟩:=yy;change xa=kx at hyx;change ya=ky at hyy;subst hyx;subst hyy
   have HK:=J1 (show Id.apart 2 za=some ⟨la,za,xa,ya,qa⟩ from by rw[hap];unfold Id.first;rw[hk];show(match la.ks with | [_,_]=>_ | _=>_)=_;rw[hk3])
   have HX:=J1 tx;have HY:=J1 ty
   have HKQ:=J1 (show g1<w.heap.size from hT _ ht1)
   rw[h2]at l0 HW HZ ⊢;rw[h3]at cl HL
   have hadd1:(⟨g1,o1,s1⟩:Addr).add (1*7)=⟨g1,o1+7,none⟩:=by unfold Addr.add;simp
   obtain⟨l0_,l1_,l2_,l3_,l4_,l5_,l6_⟩:=cl;obtain⟨q0,q1,q2,q3,q4,q5,q6⟩:=cq;obtain⟨x0,x1,x2,x3,x4,x5,x6⟩:=cx;obtain⟨y0,y1,y2,y3,y4,y5,y6⟩:=cy;simp only[Nat.zero_mul,R3]at l0_ l1_ l2_ l3_ l4_ l5_ l6_;simp only[hadd0]at q0 q1 q2 q3 q4 q5 q6;simp only[Nat.zero_mul,R3]at x0 x1 x2 x3 x4 x5 x6;simp only[hadd1]at y0 y1 y2 y3 y4 y5 y6;obtain⟨z0,z1,z2,z3,z4,z5,z6⟩:=Lies.nd (z:=⟨za,zuA,zuN,zuC,zpA,zpN,zpC,zn,some ⟨g0,o0,s0⟩,2,zxC⟩) l0;dsimp only[Nd.cells]at z0 z1 z2 z3 z4 z5 z6;simp only[G6]at z0 z1 z2 z3 z4 z5 z6;obtain⟨W1,hW1⟩:∃W1,W1=W0.alloc (Obj.cells #[la.k,la.t,.slice luA luN luC,.slice lpA lpN lpC,la.h,.int .u64 (ln:Int),.slice (some ⟨g1,o1,s1⟩) 2 lxC] 68):=⟨_,rfl⟩;obtain⟨b0,hb1⟩:=L5 (cs:=[la.k,la.t,.slice luA luN luC,.slice lpA lpN lpC,la.h,.int .u64 (ln:Int),.slice (some ⟨g1,o1,s1⟩) 2 lxC]) hW1
   have hs0:W0.heap.size=w.heap.size+1+1:=by rw[hW0,J2,J2]
   have HS0:=J1 hs0
   have hk01:Keeps (fun _=>True) W0 W1:=by rw[hW1];exact Keeps.alloc _ _ _
   have HW1:=J1 hW1;have HB1:=J1 (J5 hb0 hb1)
   have HL1:=J1 (show Lies W1 (w.heap.size+1) 123 z35 from(hb1.block _ (by rw[hs0];omega)).trans l1)
   have HZ1:=J1 (HZ.out.below hb1);have HL2:=J1 (HL.out.below hb1);have HQ1:=J1 (HQ.out.below hb1);have HX1:=J1 (HX.out.below hb1);have HY1:=J1 (HY.out.below hb1);obtain⟨c0,c1,c2,c3,c4,c5,c6⟩:=Lies.nd (z:=⟨la,luA,luN,luC,lpA,lpN,lpC,ln,some ⟨g1,o1,s1⟩,2,lxC⟩) b0;dsimp only[Nd.cells]at c0 c1 c2 c3 c4 c5 c6;simp only[G6]at c0 c1 c2 c3 c4 c5 c6
   have HF:=J1 (show(W1.cell? ⟨w.heap.size,0,none⟩=some (.int .i64 za.k)∧W1.cell? ⟨w.heap.size,1,none⟩=some (.int .i64 za.t)∧W1.cell? ⟨w.heap.size,2,none⟩=some (.slice zuA zuN zuC)∧W1.cell? ⟨w.heap.size,3,none⟩=some (.slice zpA zpN zpC)∧W1.cell? ⟨w.heap.size,4,none⟩=some (.bool za.h)∧W1.cell? ⟨w.heap.size,5,none⟩=some (.int .u64 (zn:Int))∧W1.cell? ⟨w.heap.size,6,none⟩=some (.slice (some ⟨g0,o0,s0⟩) 2 zxC)∧W1.cell? ⟨g0,o0+7,none⟩=some (.int .i64 qa.k)∧W1.cell? ⟨g0,o0+7+1,none⟩=some (.int .i64 qa.t)∧W1.cell? ⟨g0,o0+7+2,none⟩=some (.slice quA quN quC)∧W1.cell? ⟨g0,o0+7+3,none⟩=some (.slice qpA qpN qpC)∧W1.cell? ⟨g0,o0+7+4,none⟩=some (.bool qa.h)∧W1.cell? ⟨g0,o0+7+5,none⟩=some (.int .u64 (qn:Int))∧W1.cell? ⟨g0,o0+7+6,none⟩=some (.slice qxA qxN qxC)∧W1.cell? ⟨g1,o1,s1⟩=some (.int .i64 xa.k)∧W1.cell? ⟨g1,o1+1,none⟩=some (.int .i64 xa.t)∧W1.cell? ⟨g1,o1+2,none⟩=some (.slice xuA xuN xuC)∧W1.cell? ⟨g1,o1+3,none⟩=some (.slice xpA xpN xpC)∧W1.cell? ⟨g1,o1+4,none⟩=some (.bool xa.h)∧W1.cell? ⟨g1,o1+5,none⟩=some (.int .u64 (xn:Int))∧W1.cell? ⟨g1,o1+6,none⟩=some (.slice xxA xxN xxC)∧W1.cell? ⟨g1,o1+7,none⟩=some (.int .i64 ya.k)∧W1.cell? ⟨g1,o1+7+1,none⟩=some (.int .i64 ya.t)∧W1.cell? ⟨g1,o1+7+2,none⟩=some (.slice yuA yuN yuC)∧W1.cell? ⟨g1,o1+7+3,none⟩=some (.slice ypA ypN ypC)∧W1.cell? ⟨g1,o1+7+4,none⟩=some (.bool ya.h)∧W1.cell? ⟨g1,o1+7+5,none⟩=some (.int .u64 (yn:Int))∧W1.cell? ⟨g1,o1+7+6,none⟩=some (.slice yxA yxN yxC)) from⟨hk01.cell_any trivial z0,hk01.cell_any trivial z1,hk01.cell_any trivial z2,hk01.cell_any trivial z3,hk01.cell_any trivial z4,hk01.cell_any trivial z5,hk01.cell_any trivial z6,hk01.cell_any trivial q0,hk01.cell_any trivial q1,hk01.cell_any trivial q2,hk01.cell_any trivial q3,hk01.cell_any trivial q4,hk01.cell_any trivial q5,hk01.cell_any trivial q6,hk01.cell_any trivial x0,hk01.cell_any trivial x1,hk01.cell_any trivial x2,hk01.cell_any trivial x3,hk01.cell_any trivial x4,hk01.cell_any trivial x5,hk01.cell_any trivial x6,hk01.cell_any trivial y0,hk01.cell_any trivial y1,hk01.cell_any trivial y2,hk01.cell_any trivial y3,hk01.cell_any trivial y4,hk01.cell_any trivial y5,hk01.cell_any trivial y6⟩)
   clear hz hT hb0 hb1 hW0 hW1 tl tq tx ty hk hk3 h2 h3 l0 l1 b0 hadd0 hadd1 hs0 hk01 HZ HL HQ HX HY hap;clear ht0 hlt0 ht9 hlt9 ht1 hlt1 ht8 hlt8;go_enter Tryz.func72,Tryz.ntmps72
   go_upto_region 1 with(fail)
   rw[←HW.out]
   go_upto_region 4 with(fail)
   rw[←HW1.out];clear l0_ l1_ l2_ l3_ l4_ l5_ l6_ q0 q1 q2 q3 q4 q5 q6 x0 x1 x2 x3 x4 x5 x6 y0 y1 y2 y3 y4 y5 y6 z0 z1 z2 z3 z4 z5 z6;obtain⟨z0,z1,z2,z3,z4,z5,z6,q0,q1,q2,q3,q4,q5,q6,x0,x1,x2,x3,x4,x5,x6,y0,y1,y2,y3,y4,y5,y6⟩:=HF.out;clear HF
   refine wp_region_held_drew (S:=fun W=>W.cell? ⟨W0.heap.size,0,none⟩=some (.int .i64 la.k)∧W.cell? ⟨W0.heap.size,1,none⟩=some (.int .i64 la.t)∧W.cell? ⟨W0.heap.size,2,none⟩=some (.slice luA luN luC)∧W.cell? ⟨W0.heap.size,3,none⟩=some (.slice lpA lpN lpC)∧W.cell? ⟨W0.heap.size,4,none⟩=some (.bool la.h)∧W.cell? ⟨W0.heap.size,5,none⟩=some (.int .u64 (ln:Int))∧W.cell? ⟨W0.heap.size,6,none⟩=some (.slice (some ⟨g1,o1,s1⟩) 2 lxC)∧W.cell? ⟨w.heap.size,0,none⟩=some (.int .i64 za.k)∧W.cell? ⟨w.heap.size,1,none⟩=some (.int .i64 za.t)∧W.cell? ⟨w.heap.size,2,none⟩=some (.slice zuA zuN zuC)∧W.cell? ⟨w.heap.size,3,none⟩=some (.slice zpA zpN zpC)∧W.cell? ⟨w.heap.size,4,none⟩=some (.bool za.h)∧W.cell? ⟨w.heap.size,5,none⟩=some (.int .u64 (zn:Int))∧W.cell? ⟨w.heap.size,6,none⟩=some (.slice (some ⟨g0,o0,s0⟩) 2 zxC)∧W.cell? ⟨g0,o0+7,none⟩=some (.int .i64 qa.k)∧W.cell? ⟨g0,o0+7+1,none⟩=some (.int .i64 qa.t)∧W.cell? ⟨g0,o0+7+2,none⟩=some (.slice quA quN quC)∧W.cell? ⟨g0,o0+7+3,none⟩=some (.slice qpA qpN qpC)∧W.cell? ⟨g0,o0+7+4,none⟩=some (.bool qa.h)∧W.cell? ⟨g0,o0+7+5,none⟩=some (.int .u64 (qn:Int))∧W.cell? ⟨g0,o0+7+6,none⟩=some (.slice qxA qxN qxC)∧W.cell? ⟨g1,o1,s1⟩=some (.int .i64 xa.k)∧W.cell? ⟨g1,o1+1,none⟩=some (.int .i64 xa.t)∧W.cell? ⟨g1,o1+2,none⟩=some (.slice xuA xuN xuC)∧W.cell? ⟨g1,o1+3,none⟩=some (.slice xpA xpN xpC)∧W.cell? ⟨g1,o1+4,none⟩=some (.bool xa.h)∧W.cell? ⟨g1,o1+5,none⟩=some (.int .u64 (xn:Int))∧W.cell? ⟨g1,o1+6,none⟩=some (.slice xxA xxN xxC)∧W.cell? ⟨g1,o1+7,none⟩=some (.int .i64 ya.k)∧W.cell? ⟨g1,o1+7+1,none⟩=some (.int .i64 ya.t)∧W.cell? ⟨g1,o1+7+2,none⟩=some (.slice yuA yuN yuC)∧W.cell? ⟨g1,o1+7+3,none⟩=some (.slice ypA ypN ypC)∧W.cell? ⟨g1,o1+7+4,none⟩=some (.bool ya.h)∧W.cell? ⟨g1,o1+7+5,none⟩=some (.int .u64 (yn:Int))∧W.cell? ⟨g1,o1+7+6,none⟩=some (.slice yxA yxN yxC)) (by kernel_rfl) (by exact⟨c0,c1,c2,c3,c4,c5,c6,z0,z1,z2,z3,z4,z5,z6,q0,q1,q2,q3,q4,q5,q6,x0,x1,x2,x3,x4,x5,x6,y0,y1,y2,y3,y4,y5,y6⟩) (fun hS=>?_)
   refine Q7 (l':=Array.replicate 17 false) (m':=17) (by kernel_rfl) (by kernel_rfl) ?_
   clear c0 c1 c2 c3 c4 c5 c6 z0 z1 z2 z3 z4 z5 z6 q0 q1 q2 q3 q4 q5 q6 x0 x1 x2 x3 x4 x5 x6 y0 y1 y2 y3 y4 y5 y6
   refine tk9 (i:=0) (v:=?v0) rfl (Or.inl ⟨by rfl,?hy0⟩) hS ?rest0
   case hy0=>(intro w hSw;obtain⟨c0,c1,c2,c3,c4,c5,c6,z0,z1,z2,z3,z4,z5,z6,q0,q1,q2,q3,q4,q5,q6,x0,x1,x2,x3,x4,x5,x6,y0,y1,y2,y3,y4,y5,y6⟩:=hSw;go_simp;try with_reducible rfl)
   try simp only[Act.put,A7,C4,C5]
   refine tk9 (i:=1) (v:=?v1) rfl (Or.inl ⟨by rfl,?hy1⟩) hS ?rest1
   case hy1=>(intro w hSw;obtain⟨c0,c1,c2,c3,c4,c5,c6,z0,z1,z2,z3,z4,z5,z6,q0,q1,q2,q3,q4,q5,q6,x0,x1,x2,x3,x4,x5,x6,y0,y1,y2,y3,y4,y5,y6⟩:=hSw;go_simp;try with_reducible rfl)
   try simp only[Act.put,A7,C4,C5]
   refine tk9 (i:=2) (v:=?v2) rfl (Or.inl ⟨by rfl,?hy2⟩) hS ?rest2
   case hy2=>(intro w hSw;obtain⟨c0,c1,c2,c3,c4,c5,c6,z0,z1,z2,z3,z4,z5,z6,q0,q1,q2,q3,q4,q5,q6,x0,x1,x2,x3,x4,x5,x6,y0,y1,y2,y3,y4,y5,y6⟩:=hSw;go_simp;try with_reducible rfl)
   try simp only[Act.put,A7,C4,C5]
   refine tk9 (i:=3) (v:=?v3) rfl (Or.inl ⟨by rfl,?hy3⟩) hS ?rest3
   case hy3=>(intro w hSw;obtain⟨c0,c1,c2,c3,c4,c5,c6,z0,z1,z2,z3,z4,z5,z6,q0,q1,q2,q3,q4,q5,q6,x0,x1,x2,x3,x4,x5,x6,y0,y1,y2,y3,y4,y5,y6⟩:=hSw;go_simp;try with_reducible rfl)
   try simp only[Act.put,A7,C4,C5]
   refine tk9 (i:=4) (v:=?v4) rfl (Or.inl ⟨by rfl,?hy4⟩) hS ?rest4
   case hy4=>(intro w hSw;obtain⟨c0,c1,c2,c3,c4,c5,c6,z0,z1,z2,z3,z4,z5,z6,q0,q1,q2,q3,q4,q5,q6,x0,x1,x2,x3,x4,x5,x6,y0,y1,y2,y3,y4,y5,y6⟩:=hSw;go_simp;try with_reducible rfl)
   try simp only[Act.put,A7,C4,C5]
   refine tk9 (i:=5) (v:=?v5) rfl (Or.inl ⟨by rfl,?hy5⟩) hS ?rest5
   case hy5=>(intro w hSw;obtain⟨c0,c1,c2,c3,c4,c5,c6,z0,z1,z2,z3,z4,z5,z6,q0,q1,q2,q3,q4,q5,q6,x0,x1,x2,x3,x4,x5,x6,y0,y1,y2,y3,y4,y5,y6⟩:=hSw;go_simp;try with_reducible rfl)
   try simp only[Act.put,A7,C4,C5]
   refine tk9 (i:=6) (v:=?v6) rfl (Or.inl ⟨by rfl,?hy6⟩) hS ?rest6
   case hy6=>(intro w hSw;obtain⟨c0,c1,c2,c3,c4,c5,c6,z0,z1,z2,z3,z4,z5,z6,q0,q1,q2,q3,q4,q5,q6,x0,x1,x2,x3,x4,x5,x6,y0,y1,y2,y3,y4,y5,y6⟩:=hSw;go_simp;try with_reducible rfl)
   try simp only[Act.put,A7,C4,C5]
   refine tk9 (i:=7) (v:=?v7) rfl (Or.inl ⟨by rfl,?hy7⟩) hS ?rest7
   case hy7=>(intro w hSw;obtain⟨c0,c1,c2,c3,c4,c5,c6,z0,z1,z2,z3,z4,z5,z6,q0,q1,q2,q3,q4,q5,q6,x0,x1,x2,x3,x4,x5,x6,y0,y1,y2,y3,y4,y5,y6⟩:=hSw;go_simp;try with_reducible rfl)
   try simp only[Act.put,A7,C4,C5]
   refine tk9 (i:=8) (v:=?v8) rfl (Or.inl ⟨by rfl,?hy8⟩) hS ?rest8
   case hy8=>(intro w hSw;obtain⟨c0,c1,c2,c3,c4,c5,c6,z0,z1,z2,z3,z4,z5,z6,q0,q1,q2,q3,q4,q5,q6,x0,x1,x2,x3,x4,x5,x6,y0,y1,y2,y3,y4,y5,y6⟩:=hSw;go_simp;try with_reducible rfl)
   try simp only[Act.put,A7,C4,C5]
   refine tk9 (i:=9) (v:=?v9) rfl (Or.inl ⟨by rfl,?hy9⟩) hS ?rest9
   case hy9=>(intro w hSw;obtain⟨c0,c1,c2,c3,c4,c5,c6,z0,z1,z2,z3,z4,z5,z6,q0,q1,q2,q3,q4,q5,q6,x0,x1,x2,x3,x4,x5,x6,y0,y1,y2,y3,y4,y5,y6⟩:=hSw;go_simp;try with_reducible rfl)
   try simp only[Act.put,A7,C4,C5]
   refine tk9 (i:=10) (v:=?v10) rfl (Or.inl ⟨by rfl,?hy10⟩) hS ?rest10
   case hy10=>(intro w hSw;obtain⟨c0,c1,c2,c3,c4,c5,c6,z0,z1,z2,z3,z4,z5,z6,q0,q1,q2,q3,q4,q5,q6,x0,x1,x2,x3,x4,x5,x6,y0,y1,y2,y3,y4,y5,y6⟩:=hSw;go_simp;try with_reducible rfl)
   try simp only[Act.put,A7,C4,C5]
   refine tk9 (i:=11) (v:=?v11) rfl (Or.inl ⟨by rfl,?hy11⟩) hS ?rest11
   case hy11=>(intro w hSw;obtain⟨c0,c1,c2,c3,c4,c5,c6,z0,z1,z2,z3,z4,z5,z6,q0,q1,q2,q3,q4,q5,q6,x0,x1,x2,x3,x4,x5,x6,y0,y1,y2,y3,y4,y5,y6⟩:=hSw;go_simp;try with_reducible rfl)
   try simp only[Act.put,A7,C4,C5]
   refine tk9 (i:=12) (v:=?v12) rfl (Or.inl ⟨by rfl,?hy12⟩) hS ?rest12
   case hy12=>(intro w hSw;obtain⟨c0,c1,c2,c3,c4,c5,c6,z0,z1,z2,z3,z4,z5,z6,q0,q1,q2,q3,q4,q5,q6,x0,x1,x2,x3,x4,x5,x6,y0,y1,y2,y3,y4,y5,y6⟩:=hSw;go_simp;try with_reducible rfl)
   try simp only[Act.put,A7,C4,C5]
   refine tk9 (i:=13) (v:=?v13) rfl (Or.inl ⟨by rfl,?hy13⟩) hS ?rest13
   case hy13=>(intro w hSw;obtain⟨c0,c1,c2,c3,c4,c5,c6,z0,z1,z2,z3,z4,z5,z6,q0,q1,q2,q3,q4,q5,q6,x0,x1,x2,x3,x4,x5,x6,y0,y1,y2,y3,y4,y5,y6⟩:=hSw;go_simp;try with_reducible rfl)
   try simp only[Act.put,A7,C4,C5]
   refine tk9 (i:=14) (v:=?v14) rfl (Or.inl ⟨by rfl,?hy14⟩) hS ?rest14
   case hy14=>(intro w hSw;obtain⟨c0,c1,c2,c3,c4,c5,c6,z0,z1,z2,z3,z4,z5,z6,q0,q1,q2,q3,q4,q5,q6,x0,x1,x2,x3,x4,x5,x6,y0,y1,y2,y3,y4,y5,y6⟩:=hSw;go_simp;try with_reducible rfl)
   try simp only[Act.put,A7,C4,C5]
   refine wpAnyH_ready (rs:=[15]) (by kernel_rfl) (by simp) ?_
   refine J3 rfl (fun K hK=>?_) J4
   rw[if_pos (by kernel_rfl)]
   refine wp_store_mid 123 _ _ rfl (w.heap.size+1) 0 (.int .i64 la.k::.int .i64 la.t::.slice luA luN luC::.slice lpA lpN lpC::.bool la.h::.int .u64 (ln:Int)::.slice (some ⟨g1,o1,s1⟩) 2 lxC::.int .i64 za.k::.int .i64 za.t::.slice zuA zuN zuC::.slice zpA zpN zpC::.bool za.h::.int .u64 (zn:Int)::.slice (some ⟨g0,o0,s0⟩) 2 zxC::.int .i64 xa.k::.int .i64 xa.t::.slice xuA xuN xuC::.slice xpA xpN xpC::.bool xa.h::.int .u64 (xn:Int)::.slice xxA xxN xxC::.int .i64 ya.k::.int .i64 ya.t::.slice yuA yuN yuC::.slice ypA ypN ypC::.bool ya.h::.int .u64 (yn:Int)::.slice yxA yxN yxC::.int .i64 qa.k::.int .i64 qa.t::.slice quA quN quC::.slice qpA qpN qpC::.bool qa.h::.int .u64 (qn:Int)::.slice qxA qxN qxC::[]).toArray rfl rfl (Lies.there (W:=W1.drew) (cs:=z35) HL1.out rfl) (by kernel_rfl) (by rw[←G0];rfl) ?_
   obtain⟨W6,hW6⟩:∃W6,W6=setCells W1.drew (w.heap.size+1) 0 (.int .i64 la.k::.int .i64 la.t::.slice luA luN luC::.slice lpA lpN lpC::.bool la.h::.int .u64 (ln:Int)::.slice (some ⟨g1,o1,s1⟩) 2 lxC::.int .i64 za.k::.int .i64 za.t::.slice zuA zuN zuC::.slice zpA zpN zpC::.bool za.h::.int .u64 (zn:Int)::.slice (some ⟨g0,o0,s0⟩) 2 zxC::.int .i64 xa.k::.int .i64 xa.t::.slice xuA xuN xuC::.slice xpA xpN xpC::.bool xa.h::.int .u64 (xn:Int)::.slice xxA xxN xxC::.int .i64 ya.k::.int .i64 ya.t::.slice yuA yuN yuC::.slice ypA ypN ypC::.bool ya.h::.int .u64 (yn:Int)::.slice yxA yxN yxC::.int .i64 qa.k::.int .i64 qa.t::.slice quA quN quC::.slice qpA qpN qpC::.bool qa.h::.int .u64 (qn:Int)::.slice qxA qxN qxC::[]):=⟨_,rfl⟩;rw[L6];rw[←hW6]
   obtain⟨hl,hb6,hk6,hq6,hk7⟩:=L9 (P:=Tryz.prog) (L:=(.int .i64 la.k::.int .i64 la.t::.slice luA luN luC::.slice lpA lpN lpC::.bool la.h::.int .u64 (ln:Int)::.slice (some ⟨g1,o1,s1⟩) 2 lxC::.int .i64 za.k::.int .i64 za.t::.slice zuA zuN zuC::.slice zpA zpN zpC::.bool za.h::.int .u64 (zn:Int)::.slice (some ⟨g0,o0,s0⟩) 2 zxC::.int .i64 xa.k::.int .i64 xa.t::.slice xuA xuN xuC::.slice xpA xpN xpC::.bool xa.h::.int .u64 (xn:Int)::.slice xxA xxN xxC::.int .i64 ya.k::.int .i64 ya.t::.slice yuA yuN yuC::.slice ypA ypN ypC::.bool ya.h::.int .u64 (yn:Int)::.slice yxA yxN yxC::.int .i64 qa.k::.int .i64 qa.t::.slice quA quN quC::.slice qpA qpN qpC::.bool qa.h::.int .u64 (qn:Int)::.slice qxA qxN qxC::[])) (W:=W1.drew) HL1.out rfl Tryz.underlying123 rfl (by kernel_rfl) HB1.out.drew (Nat.le_succ _) hW6
   obtain⟨c0,c1,c2,c3,c4,c5,c6,z0,z1,z2,z3,z4,z5,z6,q0,q1,q2,q3,q4,q5,q6,x0,x1,x2,x3,x4,x5,x6,y0,y1,y2,y3,y4,y5,y6⟩:=hS
   have hS6:=(show W6.cell? ⟨W0.heap.size,0,none⟩=some (.int .i64 la.k)∧W6.cell? ⟨W0.heap.size,1,none⟩=some (.int .i64 la.t)∧W6.cell? ⟨W0.heap.size,2,none⟩=some (.slice luA luN luC)∧W6.cell? ⟨W0.heap.size,3,none⟩=some (.slice lpA lpN lpC)∧W6.cell? ⟨W0.heap.size,4,none⟩=some (.bool la.h)∧W6.cell? ⟨W0.heap.size,5,none⟩=some (.int .u64 (ln:Int))∧W6.cell? ⟨W0.heap.size,6,none⟩=some (.slice (some ⟨g1,o1,s1⟩) 2 lxC)∧W6.cell? ⟨w.heap.size,0,none⟩=some (.int .i64 za.k)∧W6.cell? ⟨w.heap.size,1,none⟩=some (.int .i64 za.t)∧W6.cell? ⟨w.heap.size,2,none⟩=some (.slice zuA zuN zuC)∧W6.cell? ⟨w.heap.size,3,none⟩=some (.slice zpA zpN zpC)∧W6.cell? ⟨w.heap.size,4,none⟩=some (.bool za.h)∧W6.cell? ⟨w.heap.size,5,none⟩=some (.int .u64 (zn:Int))∧W6.cell? ⟨w.heap.size,6,none⟩=some (.slice (some ⟨g0,o0,s0⟩) 2 zxC)∧W6.cell? ⟨g0,o0+7,none⟩=some (.int .i64 qa.k)∧W6.cell? ⟨g0,o0+7+1,none⟩=some (.int .i64 qa.t)∧W6.cell? ⟨g0,o0+7+2,none⟩=some (.slice quA quN quC)∧W6.cell? ⟨g0,o0+7+3,none⟩=some (.slice qpA qpN qpC)∧W6.cell? ⟨g0,o0+7+4,none⟩=some (.bool qa.h)∧W6.cell? ⟨g0,o0+7+5,none⟩=some (.int .u64 (qn:Int))∧W6.cell? ⟨g0,o0+7+6,none⟩=some (.slice qxA qxN qxC)∧W6.cell? ⟨g1,o1,s1⟩=some (.int .i64 xa.k)∧W6.cell? ⟨g1,o1+1,none⟩=some (.int .i64 xa.t)∧W6.cell? ⟨g1,o1+2,none⟩=some (.slice xuA xuN xuC)∧W6.cell? ⟨g1,o1+3,none⟩=some (.slice xpA xpN xpC)∧W6.cell? ⟨g1,o1+4,none⟩=some (.bool xa.h)∧W6.cell? ⟨g1,o1+5,none⟩=some (.int .u64 (xn:Int))∧W6.cell? ⟨g1,o1+6,none⟩=some (.slice xxA xxN xxC)∧W6.cell? ⟨g1,o1+7,none⟩=some (.int .i64 ya.k)∧W6.cell? ⟨g1,o1+7+1,none⟩=some (.int .i64 ya.t)∧W6.cell? ⟨g1,o1+7+2,none⟩=some (.slice yuA yuN yuC)∧W6.cell? ⟨g1,o1+7+3,none⟩=some (.slice ypA ypN ypC)∧W6.cell? ⟨g1,o1+7+4,none⟩=some (.bool ya.h)∧W6.cell? ⟨g1,o1+7+5,none⟩=some (.int .u64 (yn:Int))∧W6.cell? ⟨g1,o1+7+6,none⟩=some (.slice yxA yxN yxC) from⟨hk7.cell_any (by show W0.heap.size≠w.heap.size+1;have:=HS0.out;omega) c0,hk7.cell_any (by show W0.heap.size≠w.heap.size+1;have:=HS0.out;omega) c1,hk7.cell_any (by show W0.heap.size≠w.heap.size+1;have:=HS0.out;omega) c2,hk7.cell_any (by show W0.heap.size≠w.heap.size+1;have:=HS0.out;omega) c3,hk7.cell_any (by show W0.heap.size≠w.heap.size+1;have:=HS0.out;omega) c4,hk7.cell_any (by show W0.heap.size≠w.heap.size+1;have:=HS0.out;omega) c5,hk7.cell_any (by show W0.heap.size≠w.heap.size+1;have:=HS0.out;omega) c6,hk7.cell_any (by show w.heap.size≠w.heap.size+1;omega) z0,hk7.cell_any (by show w.heap.size≠w.heap.size+1;omega) z1,hk7.cell_any (by show w.heap.size≠w.heap.size+1;omega) z2,hk7.cell_any (by show w.heap.size≠w.heap.size+1;omega) z3,hk7.cell_any (by show w.heap.size≠w.heap.size+1;omega) z4,hk7.cell_any (by show w.heap.size≠w.heap.size+1;omega) z5,hk7.cell_any (by show w.heap.size≠w.heap.size+1;omega) z6,hk7.cell_any (by show g0≠w.heap.size+1;have:=HKP.out;omega) q0,hk7.cell_any (by show g0≠w.heap.size+1;have:=HKP.out;omega) q1,hk7.cell_any (by show g0≠w.heap.size+1;have:=HKP.out;omega) q2,hk7.cell_any (by show g0≠w.heap.size+1;have:=HKP.out;omega) q3,hk7.cell_any (by show g0≠w.heap.size+1;have:=HKP.out;omega) q4,hk7.cell_any (by show g0≠w.heap.size+1;have:=HKP.out;omega) q5,hk7.cell_any (by show g0≠w.heap.size+1;have:=HKP.out;omega) q6,hk7.cell_any (by show g1≠w.heap.size+1;have:=HKQ.out;omega) x0,hk7.cell_any (by show g1≠w.heap.size+1;have:=HKQ.out;omega) x1,hk7.cell_any (by show g1≠w.heap.size+1;have:=HKQ.out;omega) x2,hk7.cell_any (by show g1≠w.heap.size+1;have:=HKQ.out;omega) x3,hk7.cell_any (by show g1≠w.heap.size+1;have:=HKQ.out;omega) x4,hk7.cell_any (by show g1≠w.heap.size+1;have:=HKQ.out;omega) x5,hk7.cell_any (by show g1≠w.heap.size+1;have:=HKQ.out;omega) x6,hk7.cell_any (by show g1≠w.heap.size+1;have:=HKQ.out;omega) y0,hk7.cell_any (by show g1≠w.heap.size+1;have:=HKQ.out;omega) y1,hk7.cell_any (by show g1≠w.heap.size+1;have:=HKQ.out;omega) y2,hk7.cell_any (by show g1≠w.heap.size+1;have:=HKQ.out;omega) y3,hk7.cell_any (by show g1≠w.heap.size+1;have:=HKQ.out;omega) y4,hk7.cell_any (by show g1≠w.heap.size+1;have:=HKQ.out;omega) y5,hk7.cell_any (by show g1≠w.heap.size+1;have:=HKQ.out;omega) y6⟩)
   clear c0 c1 c2 c3 c4 c5 c6 z0 z1 z2 z3 z4 z5 z6 q0 q1 q2 q3 q4 q5 q6 x0 x1 x2 x3 x4 x5 x6 y0 y1 y2 y3 y4 y5 y6;refine hK.out _ _ hS6 (fun hS=>?_);clear hK K hS6 hW6
   try simp only[Act.put,A7]
   refine tk9 (i:=16) (v:=?v15) rfl (Or.inl ⟨by rfl,?hy15⟩) hS ?rest15
   case hy15=>(intro w hSw;obtain⟨c0,c1,c2,c3,c4,c5,c6,z0,z1,z2,z3,z4,z5,z6,q0,q1,q2,q3,q4,q5,q6,x0,x1,x2,x3,x4,x5,x6,y0,y1,y2,y3,y4,y5,y6⟩:=hSw;go_simp;try with_reducible rfl)
   try simp only[Act.put]
   refine wpAnyH_done (by kernel_rfl) ?_ _
   clear hS;go_wp2_with fail;refine bodyPost_ret (v:=.tuple #[.agg (.int .i64 la.k::.int .i64 la.t::.slice luA luN luC::.slice lpA lpN lpC::.bool la.h::.int .u64 (ln:Int)::.slice (some ⟨g1,o1,s1⟩) 2 lxC::.int .i64 za.k::.int .i64 za.t::.slice zuA zuN zuC::.slice zpA zpN zpC::.bool za.h::.int .u64 (zn:Int)::.slice (some ⟨g0,o0,s0⟩) 2 zxC::.int .i64 xa.k::.int .i64 xa.t::.slice xuA xuN xuC::.slice xpA xpN xpC::.bool xa.h::.int .u64 (xn:Int)::.slice xxA xxN xxC::.int .i64 ya.k::.int .i64 ya.t::.slice yuA yuN yuC::.slice ypA ypN ypC::.bool ya.h::.int .u64 (yn:Int)::.slice yxA yxN yxC::.int .i64 qa.k::.int .i64 qa.t::.slice quA quN quC::.slice qpA qpN qpC::.bool qa.h::.int .u64 (qn:Int)::.slice qxA qxN qxC::[]).toArray,true]) (M0 rfl rfl rfl hl) rfl ?_
   have hq:∀k,T k→k<W1.heap.size→W6.heap[k]?=W1.heap[k]?∧T k:=fun k hk hlt=>⟨hk6.same k hlt (fun e=>by subst e;exact HT.out hk),hk⟩
   exact .inl ⟨⟨la,luA,luN,luC,lpA,lpN,lpC,ln,some ⟨g1,o1,s1⟩,2,lxC⟩,⟨za,zuA,zuN,zuC,zpA,zpN,zpC,zn,some ⟨g0,o0,s0⟩,2,zxC⟩,⟨xa,xuA,xuN,xuC,xpA,xpN,xpC,xn,xxA,xxN,xxC⟩,⟨ya,yuA,yuN,yuC,ypA,ypN,ypC,yn,yxA,yxN,yxC⟩,⟨qa,quA,quN,quC,qpA,qpN,qpC,qn,qxA,qxN,qxC⟩,HK.out,rfl,⟨HL2.out.keep hk6.size hq,HX1.out.keep hk6.size hq,HY1.out.keep hk6.size hq,fun _=>⟨HZ1.out.keep hk6.size hq,HQ1.out.keep hk6.size hq⟩⟩,hb6⟩
  ·have HNO:=J1 (show Id.apart 2 za=none from by
    rw[hap];unfold Id.first;rw[hk]
    show(match la.ks with | [_,_]=>_ | _=>_)=_
    split
    ·rename_i hk3;rw[hk3]at h3;exact absurd rfl h3
    ·rfl)
   have hne:((la.ks.length:Int) != 2)=true:=by simp;omega
   rw[h2]at l0 HW ⊢;obtain⟨n3,hn3⟩:∃n3,n3=la.ks.length:=⟨_,rfl⟩;rw[←hn3]at cl hne;obtain⟨l0_,l1_,l2_,l3_,l4_,l5_,l6_⟩:=cl;simp only[Nat.zero_mul,R3]at l0_ l1_ l2_ l3_ l4_ l5_ l6_;have z6:=l0.c 6 rfl;clear hz hT hb0 hW0 tl tq hk h2 h3 l0 l1 hadd0 HZ HL HQ hap hn3 HT;clear ht0 hlt0 ht9 hlt9 cq;go_enter Tryz.func72,Tryz.ntmps72
   go_upto_region 1 with(fail)
   rw[←HW.out]
   go_upto_region 2 with(fail)
   go_step
   go_step
   go_step
   go_step
   refine wpList_store_mid rfl 123 _ _ rfl (w.heap.size+1) 0 z35.toArray rfl rfl (Lies.there (W:=W0) (cs:=z35) HL1.out rfl) (by kernel_rfl) (by rw[←G0];rfl) ?_
   obtain⟨W7,hW7⟩:∃W7,W7=setCells W0 (w.heap.size+1) 0 z35:=⟨_,rfl⟩;rw[L6];rw[←hW7]
   obtain⟨hl,hb6,hk6,hq6,hk7⟩:=L9 (P:=Tryz.prog) (L:=z35) (W:=W0) HL1.out rfl Tryz.underlying123 rfl (by kernel_rfl) HB0.out (Nat.le_succ _) hW7
   clear hW7;go_wp2_with fail;exact bodyPost_ret (v:=.tuple #[.agg z35.toArray,false]) (M0 rfl rfl rfl hl) rfl (.inr ⟨HNO.out,rfl,hb6⟩)
 ·have HNO:=J1 (show Id.apart 2 za=none from by
   rw[hap];unfold Id.first
   split
   ·rename_i hk;rw[hk]at h2;exact absurd rfl h2
   ·rfl)
  have hne:((za.ks.length:Int) != 2)=true:=by simp;omega
  obtain⟨kl,hkl⟩:∃kl,kl=za.ks.length:=⟨_,rfl⟩;rw[←hkl]at l0 HW hne ⊢;have z6:=l0.c 6 rfl;clear hz hT hb0 hW0 l0 l1 h2 hkl HZ HT hap;go_enter Tryz.func72,Tryz.ntmps72
  go_upto_region 1 with(fail)
  rw[←HW.out]
  go_upto_region 2 with(fail)
  go_step
  go_step
  go_step
  go_step
  refine wpList_store_mid rfl 123 _ _ rfl (w.heap.size+1) 0 z35.toArray rfl rfl (Lies.there (W:=W0) (cs:=z35) HL1.out rfl) (by kernel_rfl) (by rw[←G0];rfl) ?_
  obtain⟨W7,hW7⟩:∃W7,W7=setCells W0 (w.heap.size+1) 0 z35:=⟨_,rfl⟩;rw[L6];rw[←hW7]
  obtain⟨hl,hb6,hk6,hq6,hk7⟩:=L9 (P:=Tryz.prog) (L:=z35) (W:=W0) HL1.out rfl Tryz.underlying123 rfl (by kernel_rfl) HB0.out (Nat.le_succ _) hW7
  clear hW7;go_wp2_with fail;exact bodyPost_ret (v:=.tuple #[.agg z35.toArray,false]) (M0 rfl rfl rfl hl) rfl (.inr ⟨HNO.out,rfl,hb6⟩)
end Go.Proofs.YtbddhkgbpjhhaaaGreatDoor
