/-
  PACKAGE ident: what each change asks of the parts.
-/
import Derived.Test.YtbddhkgbpjhhaaaGreatDoorIdvM
set_option maxHeartbeats 6400000
set_option maxRecDepth 100000
namespace Go.Proofs.YtbddhkgbpjhhaaaGreatDoor
open Go.RowKit Go.Sort
theorem A4j (T:Nat→Prop) (a b e f g:Nd) (w:World) (_hp:PtOk T 1 w a b e f g) (_hW:Want w) :
  Calls Tryz.prog 69 #[.agg (c35 a b e f g).toArray] w fun E w'=>E=.returned (.bool (Id.holds 1 ⟨a.a,b.a,e.a,f.a,g.a⟩))∧Below w w w':=by
 have hF:Id.holds 1 ⟨a.a,b.a,e.a,f.a,g.a⟩=true:=rfl;rw[hF];obtain⟨W0,hW0⟩:∃W0,W0=w.alloc (Obj.cells (c35 a b e f g).toArray 123):=⟨_,rfl⟩;obtain⟨l0,hb0⟩:=L5 (cs:=(c35 a b e f g)) hW0;have HW:=J1 hW0;have HB:=J1 hb0;clear _hp _hW hF hW0 l0 hb0;go_enter Tryz.func69,Tryz.ntmps69
 go_upto_region 1 with(fail)
 rw[←HW.out];go_wp2_with fail;go_ret;exact⟨rfl,HB.out⟩
theorem A4i (T:Nat→Prop) (a b e f g:Nd) (w:World) (hp:PtOk T 2 w a b e f g) (hW:Want w) :
  Calls Tryz.prog 73 #[.agg (c35 a b e f g).toArray] w fun E w'=>E=.returned (.bool (Id.holds 2 ⟨a.a,b.a,e.a,f.a,g.a⟩))∧Below w w w':=by
 obtain⟨W0,hW0⟩:∃W0,W0=w.alloc (Obj.cells (c35 a b e f g).toArray 123):=⟨_,rfl⟩;obtain⟨l0,hb0⟩:=L5 (cs:=(c35 a b e f g)) hW0
 have c1:=Y5 b e W0 (((hp.bg (by decide)).1.below hb0).ps) hp.he.lt hp.sb
 have hF:Id.holds 2 ⟨a.a,b.a,e.a,f.a,g.a⟩=(Id.named b.a e.a == 0&&Id.firm ⟨a.a,b.a,e.a,f.a,g.a⟩):=rfl
 have hN:Id.named b.a e.a=Pr.tabless b.a.cs &&& e.n:=by unfold Id.named;rw[hp.he.n]
 rw[hF,hN];obtain⟨m,hm⟩:∃m,m=Pr.tabless b.a.cs &&& e.n:=⟨_,rfl⟩;rw[←hm]at c1 ⊢
 have C2:=J1 (fun W (hb:Below W0 W0 W)=>have hbw:=J5 hb0 hb;A04 T 2 (by decide) a b e f g W (hp.below hbw) (hW.below hbw (C3 _)))
 obtain⟨R,hR⟩:∃R,R=Id.firm ⟨a.a,b.a,e.a,f.a,g.a⟩:=⟨_,rfl⟩;rw[←hR]at C2 ⊢;have HX:=J1 (fun W (h:Below W0 W0 W)=>l0.below h l0.lt);have x7:=l0.c 7 rfl;have x8:=l0.c 8 rfl;have x9:=l0.c 9 rfl;have x10:=l0.c 10 rfl;have x11:=l0.c 11 rfl;have x12:=l0.c 12 rfl;have x13:=l0.c 13 rfl;have x14:=l0.c 14 rfl;have x15:=l0.c 15 rfl;have x16:=l0.c 16 rfl;have x17:=l0.c 17 rfl;have x18:=l0.c 18 rfl;have x19:=l0.c 19 rfl;have x20:=l0.c 20 rfl;have HW:=J1 hW0;have HB:=J1 hb0;clear hW0 l0 hb0 hp hW hF hN hm hR;go_enter Tryz.func73,Tryz.ntmps73
 go_upto_region 1 with(fail)
 rw[←HW.out];go_wp2_with fail;refine c1.mono ?_;rintro E w1 ⟨rfl,hb1⟩;have HB1:=J1 (J5 HB.out hb1);have c2:=C2.out w1 hb1;have l1:=HX.out w1 hb1;clear c1 x7 x8 x9 x10 x11 x12 x13 x14 x15 x16 x17 x18 x19 x20 hb1 C2 HX
 by_cases h0:m=0
 ·subst h0
  have hla:w1.rangeAt w.heap.size 0 (c35 a b e f g):=fun j v hj=>by rw[G6];exact l1.cell hj
  have HLA:=J1 hla;clear l1 hla
  go_wp2_with (refine Y6 rfl 123 _ rfl w.heap.size 0 rfl (c35 a b e f g) _ HLA.out Tryz.underlying123 rfl (by kernel_rfl) ?_)
  refine c2.mono ?_;rintro E w2 ⟨rfl,hb2⟩;have HB2:=J1 (J5 HB1.out hb2);clear c2 hb2;go_wp2_with fail;go_ret
  exact⟨by simp,HB2.out⟩
 ·have hf:((m:Int) == 0)=false:=by simp;omega
  have hg:(m == 0)=false:=by simp;omega
  clear c2 l1;go_wp2_with fail;go_ret
  exact⟨by rw[hg];rfl,HB1.out⟩
theorem A4h (T:Nat→Prop) (a b e f g:Nd) (w:World) (hp:PtOk T 3 w a b e f g) (hW:Want w) :
  Calls Tryz.prog 78 #[.agg (c35 a b e f g).toArray] w fun E w'=>E=.returned (.bool (Id.holds 3 ⟨a.a,b.a,e.a,f.a,g.a⟩))∧Below w w w':=by
 obtain⟨W0,hW0⟩:∃W0,W0=w.alloc (Obj.cells (c35 a b e f g).toArray 123):=⟨_,rfl⟩;obtain⟨l0,hb0⟩:=L5 (cs:=(c35 a b e f g)) hW0
 have c1:=Y5 a g W0 ((hp.ha.below hb0).ps) (hp.bg (by decide)).2.lt hp.sa
 have hF:Id.holds 3 ⟨a.a,b.a,e.a,f.a,g.a⟩=(Id.named a.a g.a == 0&&Id.firm ⟨a.a,b.a,e.a,f.a,g.a⟩):=rfl
 have hN:Id.named a.a g.a=Pr.tabless a.a.cs &&& g.n:=by unfold Id.named;rw[(hp.bg (by decide)).2.n]
 rw[hF,hN];obtain⟨m,hm⟩:∃m,m=Pr.tabless a.a.cs &&& g.n:=⟨_,rfl⟩;rw[←hm]at c1 ⊢
 have C2:=J1 (fun W (hb:Below W0 W0 W)=>have hbw:=J5 hb0 hb;A04 T 3 (by decide) a b e f g W (hp.below hbw) (hW.below hbw (C3 _)))
 obtain⟨R,hR⟩:∃R,R=Id.firm ⟨a.a,b.a,e.a,f.a,g.a⟩:=⟨_,rfl⟩;rw[←hR]at C2 ⊢;have HX:=J1 (fun W (h:Below W0 W0 W)=>l0.below h l0.lt);have x0:=l0.c 0 rfl;have x1:=l0.c 1 rfl;have x2:=l0.c 2 rfl;have x3:=l0.c 3 rfl;have x4:=l0.c 4 rfl;have x5:=l0.c 5 rfl;have x6:=l0.c 6 rfl;have x28:=l0.c 28 rfl;have x29:=l0.c 29 rfl;have x30:=l0.c 30 rfl;have x31:=l0.c 31 rfl;have x32:=l0.c 32 rfl;have x33:=l0.c 33 rfl;have x34:=l0.c 34 rfl;have HW:=J1 hW0;have HB:=J1 hb0;clear hW0 l0 hb0 hp hW hF hN hm hR;go_enter Tryz.func78,Tryz.ntmps78
 go_upto_region 1 with(fail)
 rw[←HW.out];go_wp2_with fail;refine c1.mono ?_;rintro E w1 ⟨rfl,hb1⟩;have HB1:=J1 (J5 HB.out hb1);have c2:=C2.out w1 hb1;have l1:=HX.out w1 hb1;clear c1 x0 x1 x2 x3 x4 x5 x6 x28 x29 x30 x31 x32 x33 x34 hb1 C2 HX
 by_cases h0:m=0
 ·subst h0
  have hla:w1.rangeAt w.heap.size 0 (c35 a b e f g):=fun j v hj=>by rw[G6];exact l1.cell hj
  have HLA:=J1 hla;clear l1 hla
  go_wp2_with (refine Y6 rfl 123 _ rfl w.heap.size 0 rfl (c35 a b e f g) _ HLA.out Tryz.underlying123 rfl (by kernel_rfl) ?_)
  refine c2.mono ?_;rintro E w2 ⟨rfl,hb2⟩;have HB2:=J1 (J5 HB1.out hb2);clear c2 hb2;go_wp2_with fail;go_ret
  exact⟨by simp,HB2.out⟩
 ·have hf:((m:Int) == 0)=false:=by simp;omega
  have hg:(m == 0)=false:=by simp;omega
  clear c2 l1;go_wp2_with fail;go_ret
  exact⟨by rw[hg];rfl,HB1.out⟩
theorem A4g (T:Nat→Prop) (a b e f g:Nd) (w:World) (hp:PtOk T 4 w a b e f g) (_hW:Want w) :
  Calls Tryz.prog 80 #[.agg (c35 a b e f g).toArray] w fun E w'=>E=.returned (.bool (Id.holds 4 ⟨a.a,b.a,e.a,f.a,g.a⟩))∧Below w w w':=by
 obtain⟨W0,hW0⟩:∃W0,W0=w.alloc (Obj.cells (c35 a b e f g).toArray 123):=⟨_,rfl⟩;obtain⟨l0,hb0⟩:=L5 (cs:=(c35 a b e f g)) hW0
 have c1:=Y5 b f W0 (((hp.bg (by decide)).1.below hb0).ps) hp.hf.lt hp.sb
 have hF:Id.holds 4 ⟨a.a,b.a,e.a,f.a,g.a⟩=(Id.named b.a f.a == 0):=rfl
 have hN:Id.named b.a f.a=Pr.tabless b.a.cs &&& f.n:=by unfold Id.named;rw[hp.hf.n]
 rw[hF,hN];obtain⟨m,hm⟩:∃m,m=Pr.tabless b.a.cs &&& f.n:=⟨_,rfl⟩;rw[←hm]at c1 ⊢;have x7:=l0.c 7 rfl;have x8:=l0.c 8 rfl;have x9:=l0.c 9 rfl;have x10:=l0.c 10 rfl;have x11:=l0.c 11 rfl;have x12:=l0.c 12 rfl;have x13:=l0.c 13 rfl;have x21:=l0.c 21 rfl;have x22:=l0.c 22 rfl;have x23:=l0.c 23 rfl;have x24:=l0.c 24 rfl;have x25:=l0.c 25 rfl;have x26:=l0.c 26 rfl;have x27:=l0.c 27 rfl;have HW:=J1 hW0;have HB:=J1 hb0;clear hW0 l0 hb0 hp _hW hF hN hm;go_enter Tryz.func80,Tryz.ntmps80
 go_upto_region 1 with(fail)
 rw[←HW.out];go_wp2_with fail;refine c1.mono ?_;rintro E w1 ⟨rfl,hb1⟩;have HB1:=J1 (J5 HB.out hb1);clear c1 x7 x8 x9 x10 x11 x12 x13 x21 x22 x23 x24 x25 x26 x27 hb1
 by_cases h0:m=0
 ·subst h0;go_wp2_with fail;go_ret;exact⟨rfl,HB1.out⟩
 ·have hf:((m:Int) == 0)=false:=by simp;omega
  have hg:(m == 0)=false:=by simp;omega
  go_wp2_with fail;go_ret
  exact⟨by rw[hg];rfl,HB1.out⟩
theorem A4f (T:Nat→Prop) (a b e f g:Nd) (w:World) (hp:PtOk T 5 w a b e f g) (_hW:Want w) :
  Calls Tryz.prog 82 #[.agg (c35 a b e f g).toArray] w fun E w'=>E=.returned (.bool (Id.holds 5 ⟨a.a,b.a,e.a,f.a,g.a⟩))∧Below w w w':=by
 obtain⟨W0,hW0⟩:∃W0,W0=w.alloc (Obj.cells (c35 a b e f g).toArray 123):=⟨_,rfl⟩;obtain⟨l0,hb0⟩:=L5 (cs:=(c35 a b e f g)) hW0;have c1:=Y5 a f W0 ((hp.ha.below hb0).ps) hp.hf.lt hp.sa;have hF:Id.holds 5 ⟨a.a,b.a,e.a,f.a,g.a⟩=(Id.named a.a f.a == 0):=rfl
 have hN:Id.named a.a f.a=Pr.tabless a.a.cs &&& f.n:=by unfold Id.named;rw[hp.hf.n]
 rw[hF,hN];obtain⟨m,hm⟩:∃m,m=Pr.tabless a.a.cs &&& f.n:=⟨_,rfl⟩;rw[←hm]at c1 ⊢;have x0:=l0.c 0 rfl;have x1:=l0.c 1 rfl;have x2:=l0.c 2 rfl;have x3:=l0.c 3 rfl;have x4:=l0.c 4 rfl;have x5:=l0.c 5 rfl;have x6:=l0.c 6 rfl;have x21:=l0.c 21 rfl;have x22:=l0.c 22 rfl;have x23:=l0.c 23 rfl;have x24:=l0.c 24 rfl;have x25:=l0.c 25 rfl;have x26:=l0.c 26 rfl;have x27:=l0.c 27 rfl;have HW:=J1 hW0;have HB:=J1 hb0;clear hW0 l0 hb0 hp _hW hF hN hm;go_enter Tryz.func82,Tryz.ntmps82
 go_upto_region 1 with(fail)
 rw[←HW.out];go_wp2_with fail;refine c1.mono ?_;rintro E w1 ⟨rfl,hb1⟩;have HB1:=J1 (J5 HB.out hb1);clear c1 x0 x1 x2 x3 x4 x5 x6 x21 x22 x23 x24 x25 x26 x27 hb1
 by_cases h0:m=0
 ·subst h0;go_wp2_with fail;go_ret;exact⟨rfl,HB1.out⟩
 ·have hf:((m:Int) == 0)=false:=by simp;omega
  have hg:(m == 0)=false:=by simp;omega
  go_wp2_with fail;go_ret
  exact⟨by rw[hg];rfl,HB1.out⟩
end Go.Proofs.YtbddhkgbpjhhaaaGreatDoor
