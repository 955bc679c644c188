/-
  PACKAGE ident: a node's parts put together in the other form.
-/
import Derived.Test.YtbddhkgbpjhhaaaGreatDoorIduM
import Derived.Test.YtbddhkgbpjhhaaaGreatDoorIdvM
import Derived.Deep.RegionHeld3
set_option maxHeartbeats 6400000
set_option maxRecDepth 100000
namespace Go.Proofs.YtbddhkgbpjhhaaaGreatDoor
open Go.RowKit Go.Sort
theorem TNd.psOn {T:Nat→Prop} {w:World} {z:Nd} (h:TNd T w z):∃e,PsOn T e w z.p z.a.cs:=h.tr.2
def MdIs (T:Nat→Prop) (t:Tr) (w:World) (E:Ending) (w':World):Prop:=∃z:Nd,E=.returned (.agg #[z.a.k,z.a.t,.slice z.uA z.uN z.uC,.slice z.pA z.pN z.pC,z.a.h,.int .u64 (z.n:Int),.slice z.xA z.xN z.xC])∧z.a=t∧TNd (fun k=>T k∨w.heap.size≤k) w' z∧Below w w w'
theorem A5J (T:Nat→Prop) (a b e f g:Nd) (w:World) (hp:PtOk T 1 w a b e f g) (hT:∀k,T k→k<w.heap.size) (hka:a.a.k≠0) :
  Calls Tryz.prog 70 #[.agg (c35 a b e f g).toArray] w (MdIs T (Id.made 1 ⟨a.a,b.a,e.a,f.a,g.a⟩) w):=by
 obtain⟨W0,hW0⟩:∃W0,W0=(w.alloc (Obj.cells (c35 a b e f g).toArray 123)).alloc (Obj.cells #[z9,z9,(),(),false,.int .u64 0,()] 68):=⟨_,rfl⟩;obtain⟨l0,l1,hb0⟩:=Q0 (cs:=(c35 a b e f g)) (ds:=[z9,z9,(),(),false,.int .u64 0,()]) hW0
 have hs0:W0.heap.size=w.heap.size+1+1:=by rw[hW0,J2,J2]
 have hT0:∀k,T k→k<W0.heap.size:=fun k hk=>by have:=hT k hk;omega
 have cc:=Z0 T a f e W0 ((hp.ha.below hb0).psOn) (hp.hf.below hb0) (hp.he.below hb0) hka hT0;have hF:Id.made 1 ⟨a.a,b.a,e.a,f.a,g.a⟩=Id.on a.a f.a e.a:=rfl;rw[hF];have x0:=l0.c 0 rfl;have x1:=l0.c 1 rfl;have x2:=l0.c 2 rfl;have x3:=l0.c 3 rfl;have x4:=l0.c 4 rfl;have x5:=l0.c 5 rfl;have x6:=l0.c 6 rfl;have x14:=l0.c 14 rfl;have x15:=l0.c 15 rfl;have x16:=l0.c 16 rfl;have x17:=l0.c 17 rfl;have x18:=l0.c 18 rfl;have x19:=l0.c 19 rfl;have x20:=l0.c 20 rfl;have x21:=l0.c 21 rfl;have x22:=l0.c 22 rfl;have x23:=l0.c 23 rfl;have x24:=l0.c 24 rfl;have x25:=l0.c 25 rfl;have x26:=l0.c 26 rfl;have x27:=l0.c 27 rfl;have HW:=J1 hW0;have HB0:=J1 hb0;have HL1:=J1 l1;have HT:=J1 hT;have HS:=J1 hs0;clear hp hT hka hF hW0 l0 l1 hb0 hs0 hT0;go_enter Tryz.func70,Tryz.ntmps70
 go_upto_region 1 with(fail)
 rw[←HW.out];go_wp2_with fail;refine cc.mono ?_;rintro E w2 ⟨z,rfl,hz,ht,hb2⟩;have HD:=J1 (HL1.out.below hb2 HL1.out.lt);have HB2:=J1 (J5 HB0.out hb2);have HZ:=J1 hz;have HTN:=J1 ht;have m0:=HD.out.c 0 rfl;have f0:=HD.out.free 0;have m1:=HD.out.c 1 rfl;have f1:=HD.out.free 1;have m2:=HD.out.c 2 rfl;have f2:=HD.out.free 2;have m3:=HD.out.c 3 rfl;have f3:=HD.out.free 3;have m4:=HD.out.c 4 rfl;have f4:=HD.out.free 4;have m5:=HD.out.c 5 rfl;have f5:=HD.out.free 5;have m6:=HD.out.c 6 rfl;have f6:=HD.out.free 6;clear cc hz ht hb2 x0 x1 x2 x3 x4 x5 x6 x14 x15 x16 x17 x18 x19 x20 x21 x22 x23 x24 x25 x26 x27;go_wp2_with fail;obtain⟨W6,hW6⟩:∃W6,W6=setCells w2 (w.heap.size+1) 0 (.int .i64 z.a.k::.int .i64 z.a.t::.slice z.uA z.uN z.uC::.slice z.pA z.pN z.pC::.bool z.a.h::.int .u64 (z.n:Int)::.slice z.xA z.xN z.xC::[]):=⟨_,rfl⟩
 obtain⟨hl,hb6,hk6,hq6,_⟩:=L9 (P:=Tryz.prog) (L:=(.int .i64 z.a.k::.int .i64 z.a.t::.slice z.uA z.uN z.uC::.slice z.pA z.pN z.pC::.bool z.a.h::.int .u64 (z.n:Int)::.slice z.xA z.xN z.xC::[])) (w:=w) HD.out rfl Tryz.underlying68 rfl (by kernel_rfl) HB2.out (Nat.le_succ _) hW6
 simp only[setCells]at hW6;rw[←hW6];clear hW6;refine bodyPost_ret (v:=.agg (.int .i64 z.a.k::.int .i64 z.a.t::.slice z.uA z.uN z.uC::.slice z.pA z.pN z.pC::.bool z.a.h::.int .u64 (z.n:Int)::.slice z.xA z.xN z.xC::[]).toArray) (R9 rfl rfl hl) rfl ?_
 exact⟨z,rfl,HZ.out,HTN.out.keep hk6.size (fun k hk hlt=>⟨hk6.same k hlt (by
  have h1:=HS.out
  rcases hk with hk | hk
  ·have:=HT.out k hk;omega
  ·omega),hk.imp id (fun h=>by have:=HS.out;omega)⟩),hb6⟩
theorem A5I (T:Nat→Prop) (a b e f g:Nd) (w:World) (hp:PtOk T 2 w a b e f g) (hT:∀k,T k→k<w.heap.size) (hka:a.a.k≠0) (hkb:b.a.k≠0) :
  Calls Tryz.prog 76 #[.agg (c35 a b e f g).toArray] w (MdIs T (Id.made 2 ⟨a.a,b.a,e.a,f.a,g.a⟩) w):=by
 obtain⟨W0,hW0⟩:∃W0,W0=(w.alloc (Obj.cells (c35 a b e f g).toArray 123)).alloc (Obj.cells #[z9,z9,(),(),false,.int .u64 0,()] 68):=⟨_,rfl⟩;obtain⟨l0,l1,hb0⟩:=Q0 (cs:=(c35 a b e f g)) (ds:=[z9,z9,(),(),false,.int .u64 0,()]) hW0
 have hs0:W0.heap.size=w.heap.size+1+1:=by rw[hW0,J2,J2]
 have hF:Id.made 2 ⟨a.a,b.a,e.a,f.a,g.a⟩=Id.on a.a e.a (Id.on b.a f.a g.a):=rfl;rw[hF];have HT:=J1 hT
 have C1:=J1 (fun W (hb:Below w w W)=>Z0 T b f g W (((hp.bg (by decide)).1.below hb).psOn) (hp.hf.below hb) ((hp.bg (by decide)).2.below hb) hkb (fun k hk=>C9 (hT k hk) hb.size))
 have C2:=J1 (fun W1 W (X:Nd) (hb:Below w w W) (hw1:w.heap.size+1+1≤W1) (hx:TNd (fun k=>T k∨W1≤k) W X)=>Z0 (fun k=>(T k∨w.heap.size+1+1≤k)∧k<W.heap.size) a e X W (((hp.ha.below hb).mono (fun k hk hlt=>⟨.inl hk,hlt⟩)).psOn) ((hp.he.below hb).mono (fun k hk hlt=>⟨.inl hk,hlt⟩)) (hx.mono (fun k hk hlt=>⟨hk.imp id (fun h=>D5 hw1 h),hlt⟩)) hka (fun k hk=>hk.2));have HW:=J1 hW0;have HB0:=J1 hb0;have HS:=J1 hs0
 have HS0:=J1 (show Below w w W0.drew∧Lies W0.drew w.heap.size 123 (c35 a b e f g)∧∃cs,cs.length=7∧Lies W0.drew (w.heap.size+1) 68 cs from⟨hb0.drew,l0,_,rfl,l1⟩)
 clear hp hT hka hkb hF hW0 l0 l1 hb0 hs0;go_enter Tryz.func76,Tryz.ntmps76
 go_upto_region 1 with(fail)
 rw[←HW.out]
 refine wp_region_held_drew (S:=fun W=>Below w w W∧Lies W w.heap.size 123 (c35 a b e f g)∧∃cs,cs.length=7∧Lies W (w.heap.size+1) 68 cs) (by kernel_rfl) HS0.out (fun hS=>?_)
 refine Q7 (l':=Array.replicate 13 false) (m':=13) (by kernel_rfl) (by kernel_rfl) ?_
 refine tk9 (i:=0) (v:=?v0) rfl (Or.inl ⟨by rfl,?hy0⟩) hS ?rest0
 case hy0=>(intro w hSw;go_simp;try with_reducible rfl)
 try simp only[Act.put,A7,C4,C5]
 refine tk9 (i:=1) (v:=?v1) rfl (Or.inl ⟨by rfl,?hy1⟩) hS ?rest1
 case hy1=>(intro w hSw;obtain⟨_,hc,_⟩:=hSw;have x0:=hc.c 0 rfl;have x1:=hc.c 1 rfl;have x2:=hc.c 2 rfl;have x3:=hc.c 3 rfl;have x4:=hc.c 4 rfl;have x5:=hc.c 5 rfl;have x6:=hc.c 6 rfl;clear hc;go_simp;try with_reducible rfl)
 try simp only[Act.put,A7,C4,C5]
 refine tk9 (i:=2) (v:=?v2) rfl (Or.inl ⟨by rfl,?hy2⟩) hS ?rest2
 case hy2=>(intro w hSw;go_simp;try with_reducible rfl)
 try simp only[Act.put,A7,C4,C5]
 refine tk9 (i:=3) (v:=?v3) rfl (Or.inl ⟨by rfl,?hy3⟩) hS ?rest3
 case hy3=>(intro w hSw;obtain⟨_,hc,_⟩:=hSw;have x0:=hc.c 14 rfl;have x1:=hc.c 15 rfl;have x2:=hc.c 16 rfl;have x3:=hc.c 17 rfl;have x4:=hc.c 18 rfl;have x5:=hc.c 19 rfl;have x6:=hc.c 20 rfl;clear hc;go_simp;try with_reducible rfl)
 try simp only[Act.put,A7,C4,C5]
 refine tk9 (i:=4) (v:=?v4) rfl (Or.inl ⟨by rfl,?hy4⟩) hS ?rest4
 case hy4=>(intro w hSw;go_simp;try with_reducible rfl)
 try simp only[Act.put,A7,C4,C5]
 refine tk9 (i:=5) (v:=?v5) rfl (Or.inl ⟨by rfl,?hy5⟩) hS ?rest5
 case hy5=>(intro w hSw;obtain⟨_,hc,_⟩:=hSw;have x0:=hc.c 7 rfl;have x1:=hc.c 8 rfl;have x2:=hc.c 9 rfl;have x3:=hc.c 10 rfl;have x4:=hc.c 11 rfl;have x5:=hc.c 12 rfl;have x6:=hc.c 13 rfl;clear hc;go_simp;try with_reducible rfl)
 try simp only[Act.put,A7,C4,C5]
 refine tk9 (i:=6) (v:=?v6) rfl (Or.inl ⟨by rfl,?hy6⟩) hS ?rest6
 case hy6=>(intro w hSw;go_simp;try with_reducible rfl)
 try simp only[Act.put,A7,C4,C5]
 refine tk9 (i:=7) (v:=?v7) rfl (Or.inl ⟨by rfl,?hy7⟩) hS ?rest7
 case hy7=>(intro w hSw;obtain⟨_,hc,_⟩:=hSw;have x0:=hc.c 21 rfl;have x1:=hc.c 22 rfl;have x2:=hc.c 23 rfl;have x3:=hc.c 24 rfl;have x4:=hc.c 25 rfl;have x5:=hc.c 26 rfl;have x6:=hc.c 27 rfl;clear hc;go_simp;try with_reducible rfl)
 try simp only[Act.put,A7,C4,C5]
 refine tk9 (i:=8) (v:=?v8) rfl (Or.inl ⟨by rfl,?hy8⟩) hS ?rest8
 case hy8=>(intro w hSw;go_simp;try with_reducible rfl)
 try simp only[Act.put,A7,C4,C5]
 refine tk9 (i:=9) (v:=?v9) rfl (Or.inl ⟨by rfl,?hy9⟩) hS ?rest9
 case hy9=>(intro w hSw;obtain⟨_,hc,_⟩:=hSw;have x0:=hc.c 28 rfl;have x1:=hc.c 29 rfl;have x2:=hc.c 30 rfl;have x3:=hc.c 31 rfl;have x4:=hc.c 32 rfl;have x5:=hc.c 33 rfl;have x6:=hc.c 34 rfl;clear hc;go_simp;try with_reducible rfl)
 try simp only[Act.put,A7,C4,C5]
 obtain⟨hbS,hcS,hdS⟩:=hS
 refine wpAnyH_ready (rs:=[10]) (by kernel_rfl) (by simp) ?_
 refine J3 rfl (fun K hK=>?_) J4
 rw[if_pos (by kernel_rfl)]
 go_simp;refine(C1.out _ hbS).mono ?_;rintro E w1 ⟨X,rfl,hX,hTX,hb1⟩
 try dsimp only
 have HB1:=J1 (J5 hbS hb1);have hS1:Below w w w1∧Lies w1 w.heap.size 123 (c35 a b e f g)∧∃cs,cs.length=7∧Lies w1 (w.heap.size+1) 68 cs:=⟨HB1.out,hcS.below hb1 hcS.lt,hdS.elim fun cs h=>⟨cs,h.1,h.2.below hb1 h.2.lt⟩⟩;have HHX:=J1 hX;have HTX:=J1 hTX
 have HWS:=J1 (show w.heap.size+1+1≤W0.drew.heap.size from Nat.le_of_eq HS.out.symm)
 have HW1S:=J1 (D5 HWS.out hb1.size);refine hK.out _ _ hS1 (fun _=>?_);clear hK K hbS hcS hdS hX hTX hb1;obtain⟨hbS,hcS,hdS⟩:=hS1
 try simp only[Act.put,A7,C4,C5]
 refine wpAnyH_ready (rs:=[11]) (by kernel_rfl) (by simp) ?_
 refine J3 rfl (fun K hK=>?_) J4
 rw[if_pos (by kernel_rfl)]
 go_simp;refine(C2.out _ _ X hbS HWS.out HTX.out).mono ?_;rintro E w2 ⟨z,rfl,hz,htz,hb2⟩
 try dsimp only
 have HB2:=J1 (J5 hbS hb2);have HZ:=J1 hz
 have HTZ:=J1 (show TNd (fun k=>T k∨w.heap.size+1+1≤k) w2 z from htz.mono fun k hk _=>by
  rcases hk with hk | hk
  ·exact hk.1
  ·exact .inr (D5 HW1S.out hk))
 have hS2:Below w w w2∧Lies w2 w.heap.size 123 (c35 a b e f g)∧∃cs,cs.length=7∧Lies w2 (w.heap.size+1) 68 cs:=⟨HB2.out,hcS.below hb2 hcS.lt,hdS.elim fun cs h=>⟨cs,h.1,h.2.below hb2 h.2.lt⟩⟩;refine hK.out _ _ hS2 (fun _=>?_);clear hK K hbS hcS hdS hz htz hb2;obtain⟨hbS,hcS,cs,hcl,hdS⟩:=hS2
 try simp only[Act.put,A7,C4,C5]
 refine wpAnyH_ready (rs:=[12]) (by kernel_rfl) (by simp) ?_
 refine J3 rfl (fun K hK=>?_) J4
 rw[if_pos (by kernel_rfl)]
 refine wp_store_mid 68 _ _ rfl (w.heap.size+1) 0 (.int .i64 z.a.k::.int .i64 z.a.t::.slice z.uA z.uN z.uC::.slice z.pA z.pN z.pC::.bool z.a.h::.int .u64 (z.n:Int)::.slice z.xA z.xN z.xC::[]).toArray rfl rfl (hdS.there hcl.symm) (by kernel_rfl) (by rw[←G0];rfl) ?_
 obtain⟨W6,hW6⟩:∃W6,W6=setCells w2 (w.heap.size+1) 0 (.int .i64 z.a.k::.int .i64 z.a.t::.slice z.uA z.uN z.uC::.slice z.pA z.pN z.pC::.bool z.a.h::.int .u64 (z.n:Int)::.slice z.xA z.xN z.xC::[]):=⟨_,rfl⟩;rw[L6];rw[←hW6]
 obtain⟨hl,hb6,hk6,hq6,_⟩:=L9 (P:=Tryz.prog) (L:=(.int .i64 z.a.k::.int .i64 z.a.t::.slice z.uA z.uN z.uC::.slice z.pA z.pN z.pC::.bool z.a.h::.int .u64 (z.n:Int)::.slice z.xA z.xN z.xC::[])) (w:=w) hdS hcl.symm Tryz.underlying68 rfl (by rw[hcl];kernel_rfl) HB2.out (Nat.le_succ _) hW6
 clear hW6
 refine hK.out _ _ ⟨hb6,(hk6.same _ hcS.lt (by omega)).trans hcS,_,rfl,hq6⟩ (fun _=>?_)
 clear hK K
 try simp only[Act.put,A7]
 refine wpAnyH_done (by kernel_rfl) ?_ _
 clear hbS hcS hdS hcl;go_wp2_with fail;refine bodyPost_ret (v:=.agg (.int .i64 z.a.k::.int .i64 z.a.t::.slice z.uA z.uN z.uC::.slice z.pA z.pN z.pC::.bool z.a.h::.int .u64 (z.n:Int)::.slice z.xA z.xN z.xC::[]).toArray) (R9 rfl rfl hl) rfl ?_
 exact⟨z,rfl,HZ.out.trans (by rw[HHX.out]),HTZ.out.keep hk6.size (fun k hk hlt=>⟨hk6.same k hlt (by
  rcases hk with hk | hk
  ·have:=HT.out k hk;omega
  ·omega),hk.imp id (fun h=>by omega)⟩),hb6⟩
theorem A5H (T:Nat→Prop) (a b e f g:Nd) (w:World) (hp:PtOk T 3 w a b e f g) (hT:∀k,T k→k<w.heap.size) (hka:a.a.k≠0) (hkb:b.a.k≠0) :
  Calls Tryz.prog 79 #[.agg (c35 a b e f g).toArray] w (MdIs T (Id.made 3 ⟨a.a,b.a,e.a,f.a,g.a⟩) w):=by
 obtain⟨W0,hW0⟩:∃W0,W0=(w.alloc (Obj.cells (c35 a b e f g).toArray 123)).alloc (Obj.cells #[z9,z9,(),(),false,.int .u64 0,()] 68):=⟨_,rfl⟩;obtain⟨l0,l1,hb0⟩:=Q0 (cs:=(c35 a b e f g)) (ds:=[z9,z9,(),(),false,.int .u64 0,()]) hW0
 have hs0:W0.heap.size=w.heap.size+1+1:=by rw[hW0,J2,J2]
 have hF:Id.made 3 ⟨a.a,b.a,e.a,f.a,g.a⟩=Id.on b.a (Id.on a.a e.a f.a) g.a:=rfl;rw[hF];have HT:=J1 hT;have C1:=J1 (fun W (hb:Below w w W)=>Z0 T a e f W ((hp.ha.below hb).psOn) (hp.he.below hb) (hp.hf.below hb) hka (fun k hk=>C9 (hT k hk) hb.size))
 have C2:=J1 (fun W1 W (X:Nd) (hb:Below w w W) (hw1:w.heap.size+1+1≤W1) (hx:TNd (fun k=>T k∨W1≤k) W X)=>Z0 (fun k=>(T k∨w.heap.size+1+1≤k)∧k<W.heap.size) b X g W ((((hp.bg (by decide)).1.below hb).mono (fun k hk hlt=>⟨.inl hk,hlt⟩)).psOn) (hx.mono (fun k hk hlt=>⟨hk.imp id (fun h=>D5 hw1 h),hlt⟩)) (((hp.bg (by decide)).2.below hb).mono (fun k hk hlt=>⟨.inl hk,hlt⟩)) hkb (fun k hk=>hk.2))
 have HW:=J1 hW0;have HB0:=J1 hb0;have HS:=J1 hs0
 have HS0:=J1 (show Below w w W0.drew∧Lies W0.drew w.heap.size 123 (c35 a b e f g)∧∃cs,cs.length=7∧Lies W0.drew (w.heap.size+1) 68 cs from⟨hb0.drew,l0,_,rfl,l1⟩)
 clear hp hT hka hkb hF hW0 l0 l1 hb0 hs0;go_enter Tryz.func79,Tryz.ntmps79
 go_upto_region 1 with(fail)
 rw[←HW.out]
 refine wp_region_held_drew (S:=fun W=>Below w w W∧Lies W w.heap.size 123 (c35 a b e f g)∧∃cs,cs.length=7∧Lies W (w.heap.size+1) 68 cs) (by kernel_rfl) HS0.out (fun hS=>?_)
 refine Q7 (l':=Array.replicate 13 false) (m':=13) (by kernel_rfl) (by kernel_rfl) ?_
 refine tk9 (i:=0) (v:=?v0) rfl (Or.inl ⟨by rfl,?hy0⟩) hS ?rest0
 case hy0=>(intro w hSw;go_simp;try with_reducible rfl)
 try simp only[Act.put,A7,C4,C5]
 refine tk9 (i:=1) (v:=?v1) rfl (Or.inl ⟨by rfl,?hy1⟩) hS ?rest1
 case hy1=>(intro w hSw;obtain⟨_,hc,_⟩:=hSw;have x0:=hc.c 7 rfl;have x1:=hc.c 8 rfl;have x2:=hc.c 9 rfl;have x3:=hc.c 10 rfl;have x4:=hc.c 11 rfl;have x5:=hc.c 12 rfl;have x6:=hc.c 13 rfl;clear hc;go_simp;try with_reducible rfl)
 try simp only[Act.put,A7,C4,C5]
 refine tk9 (i:=2) (v:=?v2) rfl (Or.inl ⟨by rfl,?hy2⟩) hS ?rest2
 case hy2=>(intro w hSw;go_simp;try with_reducible rfl)
 try simp only[Act.put,A7,C4,C5]
 refine tk9 (i:=3) (v:=?v3) rfl (Or.inl ⟨by rfl,?hy3⟩) hS ?rest3
 case hy3=>(intro w hSw;obtain⟨_,hc,_⟩:=hSw;have x0:=hc.c 0 rfl;have x1:=hc.c 1 rfl;have x2:=hc.c 2 rfl;have x3:=hc.c 3 rfl;have x4:=hc.c 4 rfl;have x5:=hc.c 5 rfl;have x6:=hc.c 6 rfl;clear hc;go_simp;try with_reducible rfl)
 try simp only[Act.put,A7,C4,C5]
 refine tk9 (i:=4) (v:=?v4) rfl (Or.inl ⟨by rfl,?hy4⟩) hS ?rest4
 case hy4=>(intro w hSw;go_simp;try with_reducible rfl)
 try simp only[Act.put,A7,C4,C5]
 refine tk9 (i:=5) (v:=?v5) rfl (Or.inl ⟨by rfl,?hy5⟩) hS ?rest5
 case hy5=>(intro w hSw;obtain⟨_,hc,_⟩:=hSw;have x0:=hc.c 14 rfl;have x1:=hc.c 15 rfl;have x2:=hc.c 16 rfl;have x3:=hc.c 17 rfl;have x4:=hc.c 18 rfl;have x5:=hc.c 19 rfl;have x6:=hc.c 20 rfl;clear hc;go_simp;try with_reducible rfl)
 try simp only[Act.put,A7,C4,C5]
 refine tk9 (i:=6) (v:=?v6) rfl (Or.inl ⟨by rfl,?hy6⟩) hS ?rest6
 case hy6=>(intro w hSw;go_simp;try with_reducible rfl)
 try simp only[Act.put,A7,C4,C5]
 refine tk9 (i:=7) (v:=?v7) rfl (Or.inl ⟨by rfl,?hy7⟩) hS ?rest7
 case hy7=>(intro w hSw;obtain⟨_,hc,_⟩:=hSw;have x0:=hc.c 21 rfl;have x1:=hc.c 22 rfl;have x2:=hc.c 23 rfl;have x3:=hc.c 24 rfl;have x4:=hc.c 25 rfl;have x5:=hc.c 26 rfl;have x6:=hc.c 27 rfl;clear hc;go_simp;try with_reducible rfl)
 try simp only[Act.put,A7,C4,C5]
 refine tk9 (i:=9) (v:=?v8) rfl (Or.inl ⟨by rfl,?hy8⟩) hS ?rest8
 case hy8=>(intro w hSw;go_simp;try with_reducible rfl)
 try simp only[Act.put,A7,C4,C5]
 refine tk9 (i:=10) (v:=?v9) rfl (Or.inl ⟨by rfl,?hy9⟩) hS ?rest9
 case hy9=>(intro w hSw;obtain⟨_,hc,_⟩:=hSw;have x0:=hc.c 28 rfl;have x1:=hc.c 29 rfl;have x2:=hc.c 30 rfl;have x3:=hc.c 31 rfl;have x4:=hc.c 32 rfl;have x5:=hc.c 33 rfl;have x6:=hc.c 34 rfl;clear hc;go_simp;try with_reducible rfl)
 try simp only[Act.put,A7,C4,C5]
 obtain⟨hbS,hcS,hdS⟩:=hS
 refine wpAnyH_ready (rs:=[8]) (by kernel_rfl) (by simp) ?_
 refine J3 rfl (fun K hK=>?_) J4
 rw[if_pos (by kernel_rfl)]
 go_simp;refine(C1.out _ hbS).mono ?_;rintro E w1 ⟨X,rfl,hX,hTX,hb1⟩
 try dsimp only
 have HB1:=J1 (J5 hbS hb1);have hS1:Below w w w1∧Lies w1 w.heap.size 123 (c35 a b e f g)∧∃cs,cs.length=7∧Lies w1 (w.heap.size+1) 68 cs:=⟨HB1.out,hcS.below hb1 hcS.lt,hdS.elim fun cs h=>⟨cs,h.1,h.2.below hb1 h.2.lt⟩⟩;have HHX:=J1 hX;have HTX:=J1 hTX
 have HWS:=J1 (show w.heap.size+1+1≤W0.drew.heap.size from Nat.le_of_eq HS.out.symm)
 have HW1S:=J1 (D5 HWS.out hb1.size);refine hK.out _ _ hS1 (fun _=>?_);clear hK K hbS hcS hdS hX hTX hb1;obtain⟨hbS,hcS,hdS⟩:=hS1
 try simp only[Act.put,A7,C4,C5]
 refine wpAnyH_ready (rs:=[11]) (by kernel_rfl) (by simp) ?_
 refine J3 rfl (fun K hK=>?_) J4
 rw[if_pos (by kernel_rfl)]
 go_simp;refine(C2.out _ _ X hbS HWS.out HTX.out).mono ?_;rintro E w2 ⟨z,rfl,hz,htz,hb2⟩
 try dsimp only
 have HB2:=J1 (J5 hbS hb2);have HZ:=J1 hz
 have HTZ:=J1 (show TNd (fun k=>T k∨w.heap.size+1+1≤k) w2 z from htz.mono fun k hk _=>by
  rcases hk with hk | hk
  ·exact hk.1
  ·exact .inr (D5 HW1S.out hk))
 have hS2:Below w w w2∧Lies w2 w.heap.size 123 (c35 a b e f g)∧∃cs,cs.length=7∧Lies w2 (w.heap.size+1) 68 cs:=⟨HB2.out,hcS.below hb2 hcS.lt,hdS.elim fun cs h=>⟨cs,h.1,h.2.below hb2 h.2.lt⟩⟩;refine hK.out _ _ hS2 (fun _=>?_);clear hK K hbS hcS hdS hz htz hb2;obtain⟨hbS,hcS,cs,hcl,hdS⟩:=hS2
 try simp only[Act.put,A7,C4,C5]
 refine wpAnyH_ready (rs:=[12]) (by kernel_rfl) (by simp) ?_
 refine J3 rfl (fun K hK=>?_) J4
 rw[if_pos (by kernel_rfl)]
 refine wp_store_mid 68 _ _ rfl (w.heap.size+1) 0 (.int .i64 z.a.k::.int .i64 z.a.t::.slice z.uA z.uN z.uC::.slice z.pA z.pN z.pC::.bool z.a.h::.int .u64 (z.n:Int)::.slice z.xA z.xN z.xC::[]).toArray rfl rfl (hdS.there hcl.symm) (by kernel_rfl) (by rw[←G0];rfl) ?_
 obtain⟨W6,hW6⟩:∃W6,W6=setCells w2 (w.heap.size+1) 0 (.int .i64 z.a.k::.int .i64 z.a.t::.slice z.uA z.uN z.uC::.slice z.pA z.pN z.pC::.bool z.a.h::.int .u64 (z.n:Int)::.slice z.xA z.xN z.xC::[]):=⟨_,rfl⟩;rw[L6];rw[←hW6]
 obtain⟨hl,hb6,hk6,hq6,_⟩:=L9 (P:=Tryz.prog) (L:=(.int .i64 z.a.k::.int .i64 z.a.t::.slice z.uA z.uN z.uC::.slice z.pA z.pN z.pC::.bool z.a.h::.int .u64 (z.n:Int)::.slice z.xA z.xN z.xC::[])) (w:=w) hdS hcl.symm Tryz.underlying68 rfl (by rw[hcl];kernel_rfl) HB2.out (Nat.le_succ _) hW6
 clear hW6
 refine hK.out _ _ ⟨hb6,(hk6.same _ hcS.lt (by omega)).trans hcS,_,rfl,hq6⟩ (fun _=>?_)
 clear hK K
 try simp only[Act.put,A7]
 refine wpAnyH_done (by kernel_rfl) ?_ _
 clear hbS hcS hdS hcl;go_wp2_with fail;refine bodyPost_ret (v:=.agg (.int .i64 z.a.k::.int .i64 z.a.t::.slice z.uA z.uN z.uC::.slice z.pA z.pN z.pC::.bool z.a.h::.int .u64 (z.n:Int)::.slice z.xA z.xN z.xC::[]).toArray) (R9 rfl rfl hl) rfl ?_
 exact⟨z,rfl,HZ.out.trans (by rw[HHX.out]),HTZ.out.keep hk6.size (fun k hk hlt=>⟨hk6.same k hlt (by
  rcases hk with hk | hk
  ·have:=HT.out k hk;omega
  ·omega),hk.imp id (fun h=>by omega)⟩),hb6⟩
theorem A5G (T:Nat→Prop) (a b e f g:Nd) (w:World) (hp:PtOk T 4 w a b e f g) (hT:∀k,T k→k<w.heap.size) (hka:a.a.k≠0) (hkb:b.a.k≠0) :
  Calls Tryz.prog 81 #[.agg (c35 a b e f g).toArray] w (MdIs T (Id.made 4 ⟨a.a,b.a,e.a,f.a,g.a⟩) w):=by
 obtain⟨W0,hW0⟩:∃W0,W0=(w.alloc (Obj.cells (c35 a b e f g).toArray 123)).alloc (Obj.cells #[z9,z9,(),(),false,.int .u64 0,()] 68):=⟨_,rfl⟩;obtain⟨l0,l1,hb0⟩:=Q0 (cs:=(c35 a b e f g)) (ds:=[z9,z9,(),(),false,.int .u64 0,()]) hW0
 have hs0:W0.heap.size=w.heap.size+1+1:=by rw[hW0,J2,J2]
 have hF:Id.made 4 ⟨a.a,b.a,e.a,f.a,g.a⟩=Id.on a.a (Id.on b.a e.a g.a) f.a:=rfl;rw[hF];have HT:=J1 hT
 have C1:=J1 (fun W (hb:Below w w W)=>Z0 T b e g W (((hp.bg (by decide)).1.below hb).psOn) (hp.he.below hb) ((hp.bg (by decide)).2.below hb) hkb (fun k hk=>C9 (hT k hk) hb.size))
 have C2:=J1 (fun W1 W (X:Nd) (hb:Below w w W) (hw1:w.heap.size+1+1≤W1) (hx:TNd (fun k=>T k∨W1≤k) W X)=>Z0 (fun k=>(T k∨w.heap.size+1+1≤k)∧k<W.heap.size) a X f W (((hp.ha.below hb).mono (fun k hk hlt=>⟨.inl hk,hlt⟩)).psOn) (hx.mono (fun k hk hlt=>⟨hk.imp id (fun h=>D5 hw1 h),hlt⟩)) ((hp.hf.below hb).mono (fun k hk hlt=>⟨.inl hk,hlt⟩)) hka (fun k hk=>hk.2));have HW:=J1 hW0;have HB0:=J1 hb0;have HS:=J1 hs0
 have HS0:=J1 (show Below w w W0.drew∧Lies W0.drew w.heap.size 123 (c35 a b e f g)∧∃cs,cs.length=7∧Lies W0.drew (w.heap.size+1) 68 cs from⟨hb0.drew,l0,_,rfl,l1⟩)
 clear hp hT hka hkb hF hW0 l0 l1 hb0 hs0;go_enter Tryz.func81,Tryz.ntmps81
 go_upto_region 1 with(fail)
 rw[←HW.out]
 refine wp_region_held_drew (S:=fun W=>Below w w W∧Lies W w.heap.size 123 (c35 a b e f g)∧∃cs,cs.length=7∧Lies W (w.heap.size+1) 68 cs) (by kernel_rfl) HS0.out (fun hS=>?_)
 refine Q7 (l':=Array.replicate 13 false) (m':=13) (by kernel_rfl) (by kernel_rfl) ?_
 refine tk9 (i:=0) (v:=?v0) rfl (Or.inl ⟨by rfl,?hy0⟩) hS ?rest0
 case hy0=>(intro w hSw;go_simp;try with_reducible rfl)
 try simp only[Act.put,A7,C4,C5]
 refine tk9 (i:=1) (v:=?v1) rfl (Or.inl ⟨by rfl,?hy1⟩) hS ?rest1
 case hy1=>(intro w hSw;obtain⟨_,hc,_⟩:=hSw;have x0:=hc.c 0 rfl;have x1:=hc.c 1 rfl;have x2:=hc.c 2 rfl;have x3:=hc.c 3 rfl;have x4:=hc.c 4 rfl;have x5:=hc.c 5 rfl;have x6:=hc.c 6 rfl;clear hc;go_simp;try with_reducible rfl)
 try simp only[Act.put,A7,C4,C5]
 refine tk9 (i:=2) (v:=?v2) rfl (Or.inl ⟨by rfl,?hy2⟩) hS ?rest2
 case hy2=>(intro w hSw;go_simp;try with_reducible rfl)
 try simp only[Act.put,A7,C4,C5]
 refine tk9 (i:=3) (v:=?v3) rfl (Or.inl ⟨by rfl,?hy3⟩) hS ?rest3
 case hy3=>(intro w hSw;obtain⟨_,hc,_⟩:=hSw;have x0:=hc.c 7 rfl;have x1:=hc.c 8 rfl;have x2:=hc.c 9 rfl;have x3:=hc.c 10 rfl;have x4:=hc.c 11 rfl;have x5:=hc.c 12 rfl;have x6:=hc.c 13 rfl;clear hc;go_simp;try with_reducible rfl)
 try simp only[Act.put,A7,C4,C5]
 refine tk9 (i:=4) (v:=?v4) rfl (Or.inl ⟨by rfl,?hy4⟩) hS ?rest4
 case hy4=>(intro w hSw;go_simp;try with_reducible rfl)
 try simp only[Act.put,A7,C4,C5]
 refine tk9 (i:=5) (v:=?v5) rfl (Or.inl ⟨by rfl,?hy5⟩) hS ?rest5
 case hy5=>(intro w hSw;obtain⟨_,hc,_⟩:=hSw;have x0:=hc.c 14 rfl;have x1:=hc.c 15 rfl;have x2:=hc.c 16 rfl;have x3:=hc.c 17 rfl;have x4:=hc.c 18 rfl;have x5:=hc.c 19 rfl;have x6:=hc.c 20 rfl;clear hc;go_simp;try with_reducible rfl)
 try simp only[Act.put,A7,C4,C5]
 refine tk9 (i:=6) (v:=?v6) rfl (Or.inl ⟨by rfl,?hy6⟩) hS ?rest6
 case hy6=>(intro w hSw;go_simp;try with_reducible rfl)
 try simp only[Act.put,A7,C4,C5]
 refine tk9 (i:=7) (v:=?v7) rfl (Or.inl ⟨by rfl,?hy7⟩) hS ?rest7
 case hy7=>(intro w hSw;obtain⟨_,hc,_⟩:=hSw;have x0:=hc.c 28 rfl;have x1:=hc.c 29 rfl;have x2:=hc.c 30 rfl;have x3:=hc.c 31 rfl;have x4:=hc.c 32 rfl;have x5:=hc.c 33 rfl;have x6:=hc.c 34 rfl;clear hc;go_simp;try with_reducible rfl)
 try simp only[Act.put,A7,C4,C5]
 refine tk9 (i:=9) (v:=?v8) rfl (Or.inl ⟨by rfl,?hy8⟩) hS ?rest8
 case hy8=>(intro w hSw;go_simp;try with_reducible rfl)
 try simp only[Act.put,A7,C4,C5]
 refine tk9 (i:=10) (v:=?v9) rfl (Or.inl ⟨by rfl,?hy9⟩) hS ?rest9
 case hy9=>(intro w hSw;obtain⟨_,hc,_⟩:=hSw;have x0:=hc.c 21 rfl;have x1:=hc.c 22 rfl;have x2:=hc.c 23 rfl;have x3:=hc.c 24 rfl;have x4:=hc.c 25 rfl;have x5:=hc.c 26 rfl;have x6:=hc.c 27 rfl;clear hc;go_simp;try with_reducible rfl)
 try simp only[Act.put,A7,C4,C5]
 obtain⟨hbS,hcS,hdS⟩:=hS
 refine wpAnyH_ready (rs:=[8]) (by kernel_rfl) (by simp) ?_
 refine J3 rfl (fun K hK=>?_) J4
 rw[if_pos (by kernel_rfl)]
 go_simp;refine(C1.out _ hbS).mono ?_;rintro E w1 ⟨X,rfl,hX,hTX,hb1⟩
 try dsimp only
 have HB1:=J1 (J5 hbS hb1);have hS1:Below w w w1∧Lies w1 w.heap.size 123 (c35 a b e f g)∧∃cs,cs.length=7∧Lies w1 (w.heap.size+1) 68 cs:=⟨HB1.out,hcS.below hb1 hcS.lt,hdS.elim fun cs h=>⟨cs,h.1,h.2.below hb1 h.2.lt⟩⟩;have HHX:=J1 hX;have HTX:=J1 hTX
 have HWS:=J1 (show w.heap.size+1+1≤W0.drew.heap.size from Nat.le_of_eq HS.out.symm)
 have HW1S:=J1 (D5 HWS.out hb1.size);refine hK.out _ _ hS1 (fun _=>?_);clear hK K hbS hcS hdS hX hTX hb1;obtain⟨hbS,hcS,hdS⟩:=hS1
 try simp only[Act.put,A7,C4,C5]
 refine wpAnyH_ready (rs:=[11]) (by kernel_rfl) (by simp) ?_
 refine J3 rfl (fun K hK=>?_) J4
 rw[if_pos (by kernel_rfl)]
 go_simp;refine(C2.out _ _ X hbS HWS.out HTX.out).mono ?_;rintro E w2 ⟨z,rfl,hz,htz,hb2⟩
 try dsimp only
 have HB2:=J1 (J5 hbS hb2);have HZ:=J1 hz
 have HTZ:=J1 (show TNd (fun k=>T k∨w.heap.size+1+1≤k) w2 z from htz.mono fun k hk _=>by
  rcases hk with hk | hk
  ·exact hk.1
  ·exact .inr (D5 HW1S.out hk))
 have hS2:Below w w w2∧Lies w2 w.heap.size 123 (c35 a b e f g)∧∃cs,cs.length=7∧Lies w2 (w.heap.size+1) 68 cs:=⟨HB2.out,hcS.below hb2 hcS.lt,hdS.elim fun cs h=>⟨cs,h.1,h.2.below hb2 h.2.lt⟩⟩;refine hK.out _ _ hS2 (fun _=>?_);clear hK K hbS hcS hdS hz htz hb2;obtain⟨hbS,hcS,cs,hcl,hdS⟩:=hS2
 try simp only[Act.put,A7,C4,C5]
 refine wpAnyH_ready (rs:=[12]) (by kernel_rfl) (by simp) ?_
 refine J3 rfl (fun K hK=>?_) J4
 rw[if_pos (by kernel_rfl)]
 refine wp_store_mid 68 _ _ rfl (w.heap.size+1) 0 (.int .i64 z.a.k::.int .i64 z.a.t::.slice z.uA z.uN z.uC::.slice z.pA z.pN z.pC::.bool z.a.h::.int .u64 (z.n:Int)::.slice z.xA z.xN z.xC::[]).toArray rfl rfl (hdS.there hcl.symm) (by kernel_rfl) (by rw[←G0];rfl) ?_
 obtain⟨W6,hW6⟩:∃W6,W6=setCells w2 (w.heap.size+1) 0 (.int .i64 z.a.k::.int .i64 z.a.t::.slice z.uA z.uN z.uC::.slice z.pA z.pN z.pC::.bool z.a.h::.int .u64 (z.n:Int)::.slice z.xA z.xN z.xC::[]):=⟨_,rfl⟩;rw[L6];rw[←hW6]
 obtain⟨hl,hb6,hk6,hq6,_⟩:=L9 (P:=Tryz.prog) (L:=(.int .i64 z.a.k::.int .i64 z.a.t::.slice z.uA z.uN z.uC::.slice z.pA z.pN z.pC::.bool z.a.h::.int .u64 (z.n:Int)::.slice z.xA z.xN z.xC::[])) (w:=w) hdS hcl.symm Tryz.underlying68 rfl (by rw[hcl];kernel_rfl) HB2.out (Nat.le_succ _) hW6
 clear hW6
 refine hK.out _ _ ⟨hb6,(hk6.same _ hcS.lt (by omega)).trans hcS,_,rfl,hq6⟩ (fun _=>?_)
 clear hK K
 try simp only[Act.put,A7]
 refine wpAnyH_done (by kernel_rfl) ?_ _
 clear hbS hcS hdS hcl;go_wp2_with fail;refine bodyPost_ret (v:=.agg (.int .i64 z.a.k::.int .i64 z.a.t::.slice z.uA z.uN z.uC::.slice z.pA z.pN z.pC::.bool z.a.h::.int .u64 (z.n:Int)::.slice z.xA z.xN z.xC::[]).toArray) (R9 rfl rfl hl) rfl ?_
 exact⟨z,rfl,HZ.out.trans (by rw[HHX.out]),HTZ.out.keep hk6.size (fun k hk hlt=>⟨hk6.same k hlt (by
  rcases hk with hk | hk
  ·have:=HT.out k hk;omega
  ·omega),hk.imp id (fun h=>by omega)⟩),hb6⟩
theorem A5F (T:Nat→Prop) (a b e f g:Nd) (w:World) (hp:PtOk T 5 w a b e f g) (hT:∀k,T k→k<w.heap.size) (hka:a.a.k≠0) (hkb:b.a.k≠0) :
  Calls Tryz.prog 83 #[.agg (c35 a b e f g).toArray] w (MdIs T (Id.made 5 ⟨a.a,b.a,e.a,f.a,g.a⟩) w):=by
 obtain⟨W0,hW0⟩:∃W0,W0=(w.alloc (Obj.cells (c35 a b e f g).toArray 123)).alloc (Obj.cells #[z9,z9,(),(),false,.int .u64 0,()] 68):=⟨_,rfl⟩;obtain⟨l0,l1,hb0⟩:=Q0 (cs:=(c35 a b e f g)) (ds:=[z9,z9,(),(),false,.int .u64 0,()]) hW0
 have hs0:W0.heap.size=w.heap.size+1+1:=by rw[hW0,J2,J2]
 have hF:Id.made 5 ⟨a.a,b.a,e.a,f.a,g.a⟩=Id.on b.a f.a (Id.on a.a e.a g.a):=rfl;rw[hF];have HT:=J1 hT
 have C1:=J1 (fun W (hb:Below w w W)=>Z0 T a e g W ((hp.ha.below hb).psOn) (hp.he.below hb) ((hp.bg (by decide)).2.below hb) hka (fun k hk=>C9 (hT k hk) hb.size))
 have C2:=J1 (fun W1 W (X:Nd) (hb:Below w w W) (hw1:w.heap.size+1+1≤W1) (hx:TNd (fun k=>T k∨W1≤k) W X)=>Z0 (fun k=>(T k∨w.heap.size+1+1≤k)∧k<W.heap.size) b f X W ((((hp.bg (by decide)).1.below hb).mono (fun k hk hlt=>⟨.inl hk,hlt⟩)).psOn) ((hp.hf.below hb).mono (fun k hk hlt=>⟨.inl hk,hlt⟩)) (hx.mono (fun k hk hlt=>⟨hk.imp id (fun h=>D5 hw1 h),hlt⟩)) hkb (fun k hk=>hk.2))
 have HW:=J1 hW0;have HB0:=J1 hb0;have HS:=J1 hs0
 have HS0:=J1 (show Below w w W0.drew∧Lies W0.drew w.heap.size 123 (c35 a b e f g)∧∃cs,cs.length=7∧Lies W0.drew (w.heap.size+1) 68 cs from⟨hb0.drew,l0,_,rfl,l1⟩)
 clear hp hT hka hkb hF hW0 l0 l1 hb0 hs0;go_enter Tryz.func83,Tryz.ntmps83
 go_upto_region 1 with(fail)
 rw[←HW.out]
 refine wp_region_held_drew (S:=fun W=>Below w w W∧Lies W w.heap.size 123 (c35 a b e f g)∧∃cs,cs.length=7∧Lies W (w.heap.size+1) 68 cs) (by kernel_rfl) HS0.out (fun hS=>?_)
 refine Q7 (l':=Array.replicate 13 false) (m':=13) (by kernel_rfl) (by kernel_rfl) ?_
 refine tk9 (i:=0) (v:=?v0) rfl (Or.inl ⟨by rfl,?hy0⟩) hS ?rest0
 case hy0=>(intro w hSw;go_simp;try with_reducible rfl)
 try simp only[Act.put,A7,C4,C5]
 refine tk9 (i:=1) (v:=?v1) rfl (Or.inl ⟨by rfl,?hy1⟩) hS ?rest1
 case hy1=>(intro w hSw;obtain⟨_,hc,_⟩:=hSw;have x0:=hc.c 7 rfl;have x1:=hc.c 8 rfl;have x2:=hc.c 9 rfl;have x3:=hc.c 10 rfl;have x4:=hc.c 11 rfl;have x5:=hc.c 12 rfl;have x6:=hc.c 13 rfl;clear hc;go_simp;try with_reducible rfl)
 try simp only[Act.put,A7,C4,C5]
 refine tk9 (i:=2) (v:=?v2) rfl (Or.inl ⟨by rfl,?hy2⟩) hS ?rest2
 case hy2=>(intro w hSw;go_simp;try with_reducible rfl)
 try simp only[Act.put,A7,C4,C5]
 refine tk9 (i:=3) (v:=?v3) rfl (Or.inl ⟨by rfl,?hy3⟩) hS ?rest3
 case hy3=>(intro w hSw;obtain⟨_,hc,_⟩:=hSw;have x0:=hc.c 21 rfl;have x1:=hc.c 22 rfl;have x2:=hc.c 23 rfl;have x3:=hc.c 24 rfl;have x4:=hc.c 25 rfl;have x5:=hc.c 26 rfl;have x6:=hc.c 27 rfl;clear hc;go_simp;try with_reducible rfl)
 try simp only[Act.put,A7,C4,C5]
 refine tk9 (i:=4) (v:=?v4) rfl (Or.inl ⟨by rfl,?hy4⟩) hS ?rest4
 case hy4=>(intro w hSw;go_simp;try with_reducible rfl)
 try simp only[Act.put,A7,C4,C5]
 refine tk9 (i:=5) (v:=?v5) rfl (Or.inl ⟨by rfl,?hy5⟩) hS ?rest5
 case hy5=>(intro w hSw;obtain⟨_,hc,_⟩:=hSw;have x0:=hc.c 0 rfl;have x1:=hc.c 1 rfl;have x2:=hc.c 2 rfl;have x3:=hc.c 3 rfl;have x4:=hc.c 4 rfl;have x5:=hc.c 5 rfl;have x6:=hc.c 6 rfl;clear hc;go_simp;try with_reducible rfl)
 try simp only[Act.put,A7,C4,C5]
 refine tk9 (i:=6) (v:=?v6) rfl (Or.inl ⟨by rfl,?hy6⟩) hS ?rest6
 case hy6=>(intro w hSw;go_simp;try with_reducible rfl)
 try simp only[Act.put,A7,C4,C5]
 refine tk9 (i:=7) (v:=?v7) rfl (Or.inl ⟨by rfl,?hy7⟩) hS ?rest7
 case hy7=>(intro w hSw;obtain⟨_,hc,_⟩:=hSw;have x0:=hc.c 14 rfl;have x1:=hc.c 15 rfl;have x2:=hc.c 16 rfl;have x3:=hc.c 17 rfl;have x4:=hc.c 18 rfl;have x5:=hc.c 19 rfl;have x6:=hc.c 20 rfl;clear hc;go_simp;try with_reducible rfl)
 try simp only[Act.put,A7,C4,C5]
 refine tk9 (i:=8) (v:=?v8) rfl (Or.inl ⟨by rfl,?hy8⟩) hS ?rest8
 case hy8=>(intro w hSw;go_simp;try with_reducible rfl)
 try simp only[Act.put,A7,C4,C5]
 refine tk9 (i:=9) (v:=?v9) rfl (Or.inl ⟨by rfl,?hy9⟩) hS ?rest9
 case hy9=>(intro w hSw;obtain⟨_,hc,_⟩:=hSw;have x0:=hc.c 28 rfl;have x1:=hc.c 29 rfl;have x2:=hc.c 30 rfl;have x3:=hc.c 31 rfl;have x4:=hc.c 32 rfl;have x5:=hc.c 33 rfl;have x6:=hc.c 34 rfl;clear hc;go_simp;try with_reducible rfl)
 try simp only[Act.put,A7,C4,C5]
 obtain⟨hbS,hcS,hdS⟩:=hS
 refine wpAnyH_ready (rs:=[10]) (by kernel_rfl) (by simp) ?_
 refine J3 rfl (fun K hK=>?_) J4
 rw[if_pos (by kernel_rfl)]
 go_simp;refine(C1.out _ hbS).mono ?_;rintro E w1 ⟨X,rfl,hX,hTX,hb1⟩
 try dsimp only
 have HB1:=J1 (J5 hbS hb1);have hS1:Below w w w1∧Lies w1 w.heap.size 123 (c35 a b e f g)∧∃cs,cs.length=7∧Lies w1 (w.heap.size+1) 68 cs:=⟨HB1.out,hcS.below hb1 hcS.lt,hdS.elim fun cs h=>⟨cs,h.1,h.2.below hb1 h.2.lt⟩⟩;have HHX:=J1 hX;have HTX:=J1 hTX
 have HWS:=J1 (show w.heap.size+1+1≤W0.drew.heap.size from Nat.le_of_eq HS.out.symm)
 have HW1S:=J1 (D5 HWS.out hb1.size);refine hK.out _ _ hS1 (fun _=>?_);clear hK K hbS hcS hdS hX hTX hb1;obtain⟨hbS,hcS,hdS⟩:=hS1
 try simp only[Act.put,A7,C4,C5]
 refine wpAnyH_ready (rs:=[11]) (by kernel_rfl) (by simp) ?_
 refine J3 rfl (fun K hK=>?_) J4
 rw[if_pos (by kernel_rfl)]
 go_simp;refine(C2.out _ _ X hbS HWS.out HTX.out).mono ?_;rintro E w2 ⟨z,rfl,hz,htz,hb2⟩
 try dsimp only
 have HB2:=J1 (J5 hbS hb2);have HZ:=J1 hz
 have HTZ:=J1 (show TNd (fun k=>T k∨w.heap.size+1+1≤k) w2 z from htz.mono fun k hk _=>by
  rcases hk with hk | hk
  ·exact hk.1
  ·exact .inr (D5 HW1S.out hk))
 have hS2:Below w w w2∧Lies w2 w.heap.size 123 (c35 a b e f g)∧∃cs,cs.length=7∧Lies w2 (w.heap.size+1) 68 cs:=⟨HB2.out,hcS.below hb2 hcS.lt,hdS.elim fun cs h=>⟨cs,h.1,h.2.below hb2 h.2.lt⟩⟩;refine hK.out _ _ hS2 (fun _=>?_);clear hK K hbS hcS hdS hz htz hb2;obtain⟨hbS,hcS,cs,hcl,hdS⟩:=hS2
 try simp only[Act.put,A7,C4,C5]
 refine wpAnyH_ready (rs:=[12]) (by kernel_rfl) (by simp) ?_
 refine J3 rfl (fun K hK=>?_) J4
 rw[if_pos (by kernel_rfl)]
 refine wp_store_mid 68 _ _ rfl (w.heap.size+1) 0 (.int .i64 z.a.k::.int .i64 z.a.t::.slice z.uA z.uN z.uC::.slice z.pA z.pN z.pC::.bool z.a.h::.int .u64 (z.n:Int)::.slice z.xA z.xN z.xC::[]).toArray rfl rfl (hdS.there hcl.symm) (by kernel_rfl) (by rw[←G0];rfl) ?_
 obtain⟨W6,hW6⟩:∃W6,W6=setCells w2 (w.heap.size+1) 0 (.int .i64 z.a.k::.int .i64 z.a.t::.slice z.uA z.uN z.uC::.slice z.pA z.pN z.pC::.bool z.a.h::.int .u64 (z.n:Int)::.slice z.xA z.xN z.xC::[]):=⟨_,rfl⟩;rw[L6];rw[←hW6]
 obtain⟨hl,hb6,hk6,hq6,_⟩:=L9 (P:=Tryz.prog) (L:=(.int .i64 z.a.k::.int .i64 z.a.t::.slice z.uA z.uN z.uC::.slice z.pA z.pN z.pC::.bool z.a.h::.int .u64 (z.n:Int)::.slice z.xA z.xN z.xC::[])) (w:=w) hdS hcl.symm Tryz.underlying68 rfl (by rw[hcl];kernel_rfl) HB2.out (Nat.le_succ _) hW6
 clear hW6
 refine hK.out _ _ ⟨hb6,(hk6.same _ hcS.lt (by omega)).trans hcS,_,rfl,hq6⟩ (fun _=>?_)
 clear hK K
 try simp only[Act.put,A7]
 refine wpAnyH_done (by kernel_rfl) ?_ _
 clear hbS hcS hdS hcl;go_wp2_with fail;refine bodyPost_ret (v:=.agg (.int .i64 z.a.k::.int .i64 z.a.t::.slice z.uA z.uN z.uC::.slice z.pA z.pN z.pC::.bool z.a.h::.int .u64 (z.n:Int)::.slice z.xA z.xN z.xC::[]).toArray) (R9 rfl rfl hl) rfl ?_
 exact⟨z,rfl,HZ.out.trans (by rw[HHX.out]),HTZ.out.keep hk6.size (fun k hk hlt=>⟨hk6.same k hlt (by
  rcases hk with hk | hk
  ·have:=HT.out k hk;omega
  ·omega),hk.imp id (fun h=>by omega)⟩),hb6⟩
end Go.Proofs.YtbddhkgbpjhhaaaGreatDoor
