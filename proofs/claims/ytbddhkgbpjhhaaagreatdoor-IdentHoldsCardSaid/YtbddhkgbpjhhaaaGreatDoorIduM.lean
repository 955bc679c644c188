/-
  PACKAGE ident: a node put together: on.
-/
import Derived.Test.YtbddhkgbpjhhaaaGreatDoorIdpM
import Derived.Test.YtbddhkgbpjhhaaaGreatDoorIdzM
import Derived.Test.YtbddhkgbpjhhaaaGreatDoorGBase
import Derived.Deep.Cut
set_option maxHeartbeats 6400000
set_option maxRecDepth 100000
namespace Go.Proofs.YtbddhkgbpjhhaaaGreatDoor
open Go.RowKit Go.Sort
theorem Id.tables_on {o x y:Tr} (h:o.k≠0):Tr.tables (Id.on o x y)=Tr.tables x ||| Tr.tables y:=by
 refine Nat.eq_of_testBit_eq fun j=>?_;rw[G7,Ck.tables_lv,Ck.tables_lv,Ck.tables_lv,St.testBit_ofN,St.testBit_ofN,St.testBit_ofN,Id.lv_on h]
 by_cases h1:(j:Int)∈Ck.lv (Tr.all x) <;> by_cases h2:(j:Int)∈Ck.lv (Tr.all y) <;> by_cases h3:j<64 <;> simp[h1,h2,h3]
theorem A88 {T:Nat→Prop} {w:World} {g:Nat} {ty:TypeId} {a b:Tr} {u v x y:Value} (h:Lies w g ty [a.k,a.t,u,v,a.h,b.k,b.t,x,y,b.h]) (ha:TrOn T w (a,u,v)) (hb:TrOn T w (b,x,y)) (hg:T g):∃d,TsOn T d w (.slice (some ⟨g,0,none⟩) 2 2) [a,b]:=by
 obtain⟨⟨d1,h1⟩,p1⟩:=ha;obtain⟨⟨d2,h2⟩,p2⟩:=hb
 refine⟨max d1 d2+1,_,2,rfl,by simp,fun j c hj=>?_⟩
 match j,hj with
 | 0,hj =>
  cases hj;exact⟨g,0,none,u,v,rfl,hg,h.lt,⟨h.c 0 rfl,h.c 1 rfl,h.c 2 rfl,h.c 3 rfl,h.c 4 rfl⟩,p1,h1.mono (Nat.le_max_left _ _)⟩
 | 1,hj =>
  cases hj;exact⟨g,0,none,x,y,rfl,hg,h.lt,⟨h.c 5 rfl,h.c 6 rfl,h.c 7 rfl,h.c 8 rfl,h.c 9 rfl⟩,p2,h2.mono (Nat.le_max_right _ _)⟩
theorem A8j {T:Nat→Prop} {w:World} {g:Nat} {ty:TypeId} {l r:Nd} (h:Lies w g ty (l.cells++r.cells)) (hl:TNd T w l) (hr:TNd T w r) (hg:T g):∃d,NksOn T d w (.slice (some ⟨g,0,none⟩) 2 2) [l.a,r.a]:=by
 obtain⟨d1,h1⟩:=hl.ks;obtain⟨d2,h2⟩:=hr.ks
 refine⟨max d1 d2+1,_,2,rfl,by simp,fun j c hj=>?_⟩
 match j,hj with
 | 0,hj =>
  cases hj;exact⟨g,0,none,l,rfl,hg,h.lt,⟨h.c 0 rfl,h.c 1 rfl,h.c 2 rfl,h.c 3 rfl,h.c 4 rfl,h.c 5 rfl,h.c 6 rfl⟩,rfl,hl.n,hl.tr,h1.mono (Nat.le_max_left _ _)⟩
 | 1,hj =>
  cases hj;exact⟨g,0,none,r,rfl,hg,h.lt,⟨h.c 7 rfl,h.c 8 rfl,h.c 9 rfl,h.c 10 rfl,h.c 11 rfl,h.c 12 rfl,h.c 13 rfl⟩,rfl,hr.n,hr.tr,h2.mono (Nat.le_max_right _ _)⟩
def OnIs (T:Nat→Prop) (o l r:Tr) (w:World) (E:Ending) (w':World):Prop:=∃z:Nd,E=.returned (.agg #[z.a.k,z.a.t,.slice z.uA z.uN z.uC,.slice z.pA z.pN z.pC,z.a.h,.int .u64 (z.n:Int),.slice z.xA z.xN z.xC])∧z.a=Id.on o l r∧TNd (fun k=>T k∨w.heap.size≤k) w' z∧Below w w w'
theorem Z0 (T:Nat→Prop) (o l r:Nd) (w:World) (ho:∃e,PsOn T e w o.p o.a.cs) (hl:TNd T w l) (hr:TNd T w r) (hk:o.a.k≠0) (hT:∀k,T k→k<w.heap.size) :
  Calls Tryz.prog 71 #[.agg #[o.a.k,o.a.t,.slice o.uA o.uN o.uC,.slice o.pA o.pN o.pC,o.a.h,.int .u64 (o.n:Int),.slice o.xA o.xN o.xC],.agg #[l.a.k,l.a.t,.slice l.uA l.uN l.uC,.slice l.pA l.pN l.pC,l.a.h,.int .u64 (l.n:Int),.slice l.xA l.xN l.xC],.agg #[r.a.k,r.a.t,.slice r.uA r.uN r.uC,.slice r.pA r.pN r.pC,r.a.h,.int .u64 (r.n:Int),.slice r.xA r.xN r.xC]] w (OnIs T o.a l.a r.a w):=by
 have hor:=u64_or_nat l.n r.n hl.lt hr.lt
 have hn:l.n ||| r.n=Tr.tables (Id.on o.a l.a r.a):=by rw[hl.n,hr.n,Id.tables_on hk]
 obtain⟨oa,ouA,ouN,ouC,opA,opN,opC,on,oxA,oxN,oxC⟩:=o;obtain⟨la,luA,luN,luC,lpA,lpN,lpC,ln,lxA,lxN,lxC⟩:=l;obtain⟨ra,ruA,ruN,ruC,rpA,rpN,rpC,rn,rxA,rxN,rxC⟩:=r;dsimp only at hor hn ⊢;obtain⟨W0,hW0⟩:∃W0,W0=(((w.alloc (Obj.cells #[oa.k,oa.t,.slice ouA ouN ouC,.slice opA opN opC,oa.h,.int .u64 (on:Int),.slice oxA oxN oxC] 68)).alloc (Obj.cells #[la.k,la.t,.slice luA luN luC,.slice lpA lpN lpC,la.h,.int .u64 (ln:Int),.slice lxA lxN lxC] 68)).alloc (Obj.cells #[ra.k,ra.t,.slice ruA ruN ruC,.slice rpA rpN rpC,ra.h,.int .u64 (rn:Int),.slice rxA rxN rxC] 68)).alloc (Obj.cells #[z9,z9,(),(),false,.int .u64 0,()] 68):=⟨_,rfl⟩;obtain⟨b0,b1,b2,b3,hb0,hs0⟩:=A4W (c0:=[oa.k,oa.t,.slice ouA ouN ouC,.slice opA opN opC,oa.h,.int .u64 (on:Int),.slice oxA oxN oxC]) (c1:=[la.k,la.t,.slice luA luN luC,.slice lpA lpN lpC,la.h,.int .u64 (ln:Int),.slice lxA lxN lxC]) (c2:=[ra.k,ra.t,.slice ruA ruN ruC,.slice rpA rpN rpC,ra.h,.int .u64 (rn:Int),.slice rxA rxN rxC]) (c3:=[z9,z9,(),(),false,.int .u64 0,()]) hW0;have HW:=J1 hW0;have HB0:=J1 hb0;have HS0:=J1 hs0;have HB3:=J1 b3;have HO:=J1 (ho.elim fun e h=>(⟨e,h.keep (T':=T) hb0.size fun k hk hlt=>⟨hb0.block k hlt,hk⟩⟩:∃e,PsOn T e W0 (.slice opA opN opC) oa.cs));have HL:=J1 (hl.below hb0);have HR:=J1 (hr.below hb0);have HN:=J1 hn;have HOR:=J1 hor
 obtain⟨on',hon⟩:∃n,n=ln ||| rn:=⟨_,rfl⟩
 rw[←hon]at hor HN;have o0:=b0.c 0 rfl;have o1:=b0.c 1 rfl;have o2:=b0.c 2 rfl;have o3:=b0.c 3 rfl;have o4:=b0.c 4 rfl;have o5:=b0.c 5 rfl;have o6:=b0.c 6 rfl;have B0:=b0.alloc (Obj.cells #[la.k,la.t,.slice luA luN luC,.slice lpA lpN lpC,la.h,ra.k,ra.t,.slice ruA ruN ruC,.slice rpA rpN rpC,ra.h] 26);have o0_:=B0.c 0 rfl;have o1_:=B0.c 1 rfl;have o2_:=B0.c 2 rfl;have o3_:=B0.c 3 rfl;have o4_:=B0.c 4 rfl;have o5_:=B0.c 5 rfl;have o6_:=B0.c 6 rfl;have l0:=b1.c 0 rfl;have l1:=b1.c 1 rfl;have l2:=b1.c 2 rfl;have l3:=b1.c 3 rfl;have l4:=b1.c 4 rfl;have l5:=b1.c 5 rfl;have l6:=b1.c 6 rfl;have B1:=b1.alloc (Obj.cells #[la.k,la.t,.slice luA luN luC,.slice lpA lpN lpC,la.h,ra.k,ra.t,.slice ruA ruN ruC,.slice rpA rpN rpC,ra.h] 26);have l0_:=B1.c 0 rfl;have l1_:=B1.c 1 rfl;have l2_:=B1.c 2 rfl;have l3_:=B1.c 3 rfl;have l4_:=B1.c 4 rfl;have l5_:=B1.c 5 rfl;have l6_:=B1.c 6 rfl;have r0:=b2.c 0 rfl;have r1:=b2.c 1 rfl;have r2:=b2.c 2 rfl;have r3:=b2.c 3 rfl;have r4:=b2.c 4 rfl;have r5:=b2.c 5 rfl;have r6:=b2.c 6 rfl;have B2:=b2.alloc (Obj.cells #[la.k,la.t,.slice luA luN luC,.slice lpA lpN lpC,la.h,ra.k,ra.t,.slice ruA ruN ruC,.slice rpA rpN rpC,ra.h] 26);have r0_:=B2.c 0 rfl;have r1_:=B2.c 1 rfl;have r2_:=B2.c 2 rfl;have r3_:=B2.c 3 rfl;have r4_:=B2.c 4 rfl;have r5_:=B2.c 5 rfl;have r6_:=B2.c 6 rfl;have D3:=(b3.alloc (Obj.cells #[la.k,la.t,.slice luA luN luC,.slice lpA lpN lpC,la.h,ra.k,ra.t,.slice ruA ruN ruC,.slice rpA rpN rpC,ra.h] 26)).alloc (Obj.cells #[la.k,la.t,.slice luA luN luC,.slice lpA lpN lpC,la.h,.int .u64 (ln:Int),.slice lxA lxN lxC,ra.k,ra.t,.slice ruA ruN ruC,.slice rpA rpN rpC,ra.h,.int .u64 (rn:Int),.slice rxA rxN rxC] 68);obtain⟨W2,hW2⟩:∃W2,W2=(W0.alloc (Obj.cells #[la.k,la.t,.slice luA luN luC,.slice lpA lpN lpC,la.h,ra.k,ra.t,.slice ruA ruN ruC,.slice rpA rpN rpC,ra.h] 26)).alloc (Obj.cells #[la.k,la.t,.slice luA luN luC,.slice lpA lpN lpC,la.h,.int .u64 (ln:Int),.slice lxA lxN lxC,ra.k,ra.t,.slice ruA ruN ruC,.slice rpA rpN rpC,ra.h,.int .u64 (rn:Int),.slice rxA rxN rxC] 68):=⟨_,rfl⟩;obtain⟨bt,bn,hb2⟩:=Q0 (cs:=[la.k,la.t,.slice luA luN luC,.slice lpA lpN lpC,la.h,ra.k,ra.t,.slice ruA ruN ruC,.slice rpA rpN rpC,ra.h]) (ds:=[la.k,la.t,.slice luA luN luC,.slice lpA lpN lpC,la.h,.int .u64 (ln:Int),.slice lxA lxN lxC,ra.k,ra.t,.slice ruA ruN ruC,.slice rpA rpN rpC,ra.h,.int .u64 (rn:Int),.slice rxA rxN rxC]) hW2;have HW2:=J1 hW2;have HBT:=J1 bt;have HBN:=J1 bn;have HB2:=J1 hb2;have HT:=J1 hT
 have HD3:=J1 (show Lies W2 (w.heap.size+1+1+1) 68 [z9,z9,(),(),false,.int .u64 0,()] from by rw[hW2];exact D3)
 have m0:=D3.c 0 rfl;have f0:=D3.free 0;have m1:=D3.c 1 rfl;have f1:=D3.free 1;have m2:=D3.c 2 rfl;have f2:=D3.free 2;have m3:=D3.c 3 rfl;have f3:=D3.free 3;have m4:=D3.c 4 rfl;have f4:=D3.free 4;have m5:=D3.c 5 rfl;have f5:=D3.free 5;have m6:=D3.c 6 rfl;have f6:=D3.free 6;clear ho hl hr hk hn hW0 b0 b1 b2 b3 hb0 hs0 HOR hon hW2 bt bn hb2 hT B0 B1 B2 D3;go_enter Tryz.func71,Tryz.ntmps71
 go_upto_region 1 with(fail)
 rw[←HW.out];go_wp2_with fail;rw[←HW2.out];obtain⟨W6,hW6⟩:∃W6,W6=setCells W2 (w.heap.size+1+1+1) 0 (.int .i64 oa.k::.int .i64 0::.slice (some ⟨W0.heap.size,0,none⟩) 2 2::.slice opA opN opC::.bool oa.h::.int .u64 (on':Int)::.slice (some ⟨W0.heap.size+1,0,none⟩) 2 2::[]):=⟨_,rfl⟩
 obtain⟨hl,hb6,hk6,hq6,_⟩:=L9 (P:=Tryz.prog) (L:=(.int .i64 oa.k::.int .i64 0::.slice (some ⟨W0.heap.size,0,none⟩) 2 2::.slice opA opN opC::.bool oa.h::.int .u64 (on':Int)::.slice (some ⟨W0.heap.size+1,0,none⟩) 2 2::[])) (w:=w) HD3.out rfl Tryz.underlying68 rfl (by kernel_rfl) (J5 HB0.out HB2.out) (by omega) hW6
 simp only[setCells]at hW6;rw[←hW6];clear hW6;refine bodyPost_ret (v:=.agg (.int .i64 oa.k::.int .i64 0::.slice (some ⟨W0.heap.size,0,none⟩) 2 2::.slice opA opN opC::.bool oa.h::.int .u64 (on':Int)::.slice (some ⟨W0.heap.size+1,0,none⟩) 2 2::[]).toArray) (R9 rfl rfl hl) rfl ?_;have hs6:W0.heap.size≤W6.heap.size:=D5 HB2.out.size hk6.size
 have hkp:∀k,T k→k<W0.heap.size→W6.heap[k]?=W0.heap[k]?∧(T k∨w.heap.size≤k):=fun k hk hlt=>⟨(hk6.same k (C9 hlt HB2.out.size) (by have:=HT.out k hk;omega)).trans (HB2.out.block k hlt),.inl hk⟩
 have hs0:=HS0.out
 have kt:Lies W6 W0.heap.size 26 [la.k,la.t,.slice luA luN luC,.slice lpA lpN lpC,la.h,ra.k,ra.t,.slice ruA ruN ruC,.slice rpA rpN rpC,ra.h]:=(hk6.same _ HBT.out.lt (by omega)).trans HBT.out
 have kn:Lies W6 (W0.heap.size+1) 68 [la.k,la.t,.slice luA luN luC,.slice lpA lpN lpC,la.h,.int .u64 (ln:Int),.slice lxA lxN lxC,ra.k,ra.t,.slice ruA ruN ruC,.slice rpA rpN rpC,ra.h,.int .u64 (rn:Int),.slice rxA rxN rxC]:=(hk6.same _ HBN.out.lt (by omega)).trans HBN.out
 have hl6:=HL.out.keep hs6 hkp;have hr6:=HR.out.keep hs6 hkp;obtain⟨eo,ho⟩:=HO.out
 exact⟨⟨Id.on oa la ra,some ⟨W0.heap.size,0,none⟩,2,2,opA,opN,opC,on',some ⟨W0.heap.size+1,0,none⟩,2,2⟩,rfl,rfl,⟨HN.out,⟨A88 kt hl6.tr hr6.tr (.inr (by omega)),eo,ho.keep hs6 hkp⟩,A8j (l:=⟨la,luA,luN,luC,lpA,lpN,lpC,ln,lxA,lxN,lxC⟩) (r:=⟨ra,ruA,ruN,ruC,rpA,rpN,rpC,rn,rxA,rxN,rxC⟩) kn hl6 hr6 (.inr (by omega))⟩,hb6⟩
end Go.Proofs.YtbddhkgbpjhhaaaGreatDoor
