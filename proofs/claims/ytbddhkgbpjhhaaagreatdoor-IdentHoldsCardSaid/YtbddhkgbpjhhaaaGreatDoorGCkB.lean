/-
  LAID TOGETHER, BY PROGRAM, of: Ckp, Ckq, Ckr, Ckc, Ckt.
-/
import Derived.Test.YtbddhkgbpjhhaaaGreatDoorGPl2
import Derived.Test.YtbddhkgbpjhhaaaGreatDoorGCkA
import Derived.Test.YtbddhkgbpjhhaaaGreatDoorGBase
import Derived.Test.YtbddhkgbpjhhaaaGreatDoorGTreeA
import Derived.Deep.RegionHeld3
import Derived.OrdersIn
import Derived.Shelf.Abstract
import Derived.WalkKit
import Derived.OwnWalkIn
import Derived.TacticsInMore
set_option maxHeartbeats 25600000
set_option maxRecDepth 100000
namespace Go.Proofs.YtbddhkgbpjhhaaaGreatDoor
open Go.RowKit Go.Sort
theorem A1F {w w':World} {B:Nat} {v:Value} {l:List (Int × Int)} (h:Pairs w v l) (hb:Below B w w') (hB:w.heap.size≤B):Pairs w' v l:=by
 obtain⟨A,c,hv,hl,hx⟩:=h;refine⟨A,c,hv,hl,fun j x hj=>?_⟩;obtain⟨b,o,p,hA,hlt,h0,h1⟩:=hx j x hj
 exact⟨b,o,p,hA,C9 hlt hb.size,(hb.cell (by rw[L7];show b<B;omega)).trans h0,(hb.cell (by show((⟨b,o,p⟩:Addr).add (j*2)).block<B;rw[L7];show b<B;omega)).trans h1⟩
theorem Sl.ints_at {w:World} {A:Option Addr} {n c:Nat} {l:List Int} {k:IntKind} {j:Nat} {x:Int} (h:Sl w (.slice A n c) (l.map (Value.int k))) (hj:l[j]?=some x) :
  ∃b o p,A=some ⟨b,o,p⟩∧b<w.heap.size∧w.cell? ((⟨b,o,p⟩:Addr).add j)=some (.int k x):=by
 obtain⟨A',c',hv,_,hx⟩:=h;cases hv
 exact hx j _ (by rw[F5,hj];rfl)
theorem Ck.out_no {cols:List Int} {l r:Nat} {x:Int × Int} (h:St.hasB (l ||| r) x.1=false):Ck.out cols l r x=true:=by
 rw[Ck.has_or,Bool.or_eq_false_iff]at h;unfold Ck.out;rw[h.1,h.2];rfl
theorem Ck.out_yes {cols:List Int} {l r:Nat} {x:Int × Int} {q:Nat} {m:Int} (h:St.hasB (l ||| r) x.1=true) (hq:x.1=q) (hm:cols[q]?=some m):Ck.out cols l r x=decide (m≤x.2):=by
 rw[Ck.has_or,Bool.or_eq_true]at h;unfold Ck.out;rw[hq]at h ⊢
 have e:(!St.hasB l (q:Int)&&!St.hasB r (q:Int))=false:=by
  rcases h with h | h <;> simp[h]
 have e2:cols.getD ((q:Int)).toNat 0=m:=by
  rw[Int.toNat_natCast,List.getD_eq_getElem?_getD,hm];rfl
 rw[e,e2,Bool.false_or]
theorem A3D (d:Nat) (f:Pf) (u:Value) (ps:List Pd) (cv:Value) (cols:List Int) (l r:Nat) (w:World) (hu:PsAt d w u ps) (hc:Sl w cv (cols.map (Value.int .i64))) (hl:l<18446744073709551616) (hr:r<18446744073709551616)
  (hlr:∀j,(l ||| r).testBit j=true→j<cols.length) (hsz:Pr.sizes ps≤1000) :
  Calls Tryz.prog 61 #[.agg #[f.k,f.u,f.o,f.a.k,f.a.t,f.a.c,f.a.z,f.a.n,f.b.k,f.b.t,f.b.c,f.b.z,f.b.n,u],cv,.int .u64 (l:Int),.int .u64 (r:Int)] w
   fun e w'=>e=.returned (.int .i64 (Ck.conj cols l r (.mk f ps)))∧Below w w w':=by
 obtain⟨A,c,rfl,hlen⟩:=hu.form;obtain⟨W0,hW0⟩:∃W0,W0=w.alloc (Obj.cells #[f.k,f.u,f.o,f.a.k,f.a.t,f.a.c,f.a.z,f.a.n,f.b.k,f.b.t,f.b.c,f.b.z,f.b.n,.slice A ps.length c] 57):=⟨_,rfl⟩;obtain⟨l0,p0,hb0⟩:=V9 hW0;have hlt0:=l0.lt;have cs:=A5m d f _ ps W0 (hu.below hb0 (C3 _));have cs2:=fun W (h:Below W0 W0 W)=>A6J d f _ ps W ((hu.below hb0 (C3 _)).below h (C3 _)) hsz;have cs3:=fun W (h:Below W0 W0 W)=>A1D d f _ ps W ((hu.below hb0 (C3 _)).below h (C3 _));have CS2:=J1 cs2;have CS3:=J1 cs3;have HP:=J1 p0;have HC:=J1 (hc.below hb0 (C3 _));have HLR:=J1 hlr;have HW:=J1 hW0;have HB:=J1 hb0;have HLT:=J1 hlt0;have HLEN:=J1 (Pr.cols_len (.mk f ps))
 have hsz2:Pr.size (.mk f ps)=1+Pr.sizes ps:=by rw[Pr.size]
 have HTL:=J1 (A0b (.mk f ps));obtain⟨C,cc,hcv,_⟩:=hc;subst hcv;rw[E0]at HC ⊢;obtain⟨n,hnn⟩:∃n,n=cols.length:=⟨_,rfl⟩;rw[←hnn]at HC ⊢;have HN:=J1 hnn;have HOR:=J1 (u64_or_nat l r hl hr);obtain⟨R,hR⟩:∃R,R=Ck.conj cols l r (.mk f ps):=⟨_,rfl⟩;obtain⟨L,hL⟩:∃L,L=Pr.cols (.mk f ps):=⟨_,rfl⟩;obtain⟨T,hT⟩:∃T,T=Pr.tables (.mk f ps):=⟨_,rfl⟩;rw[←hR];unfold Ck.conj at hR;rw[←hL,←hT]at hR;rw[←hL]at HLEN;rw[←hT]at HTL;simp only[←hL]at CS2;simp only[←hT]at CS3
 have HSZ:=J1 (show L.length≤2002 by have:=HLEN.out;omega)
 obtain⟨rt,hrt⟩:∃rt,rt=Pr.rightAt (.mk f ps) 1:=⟨_,rfl⟩;rw[←hrt]at hR cs;have HA1:=J1 (u64_and_nat T l HTL.out hl);have HA2:=J1 (u64_and_nat T r HTL.out hr);clear hu hlr hW0 hb0 l0 hlt0 cs2 cs3 hL hT hrt hnn hsz hsz2 HLEN;obtain⟨x0,x1,x2,x3,x4,x5,x6,x7,x8,x9,x10,x11,x12,x13⟩:=p0;go_enter Tryz.func61,Tryz.ntmps61
 go_upto_region 1 with(fail)
 rw[←HW.out]
 cases rt with
 | false =>
  rw[if_pos rfl]at hR;subst hR;go_wp2_with fail;refine cs.mono ?_;rintro e w2 ⟨rfl,hb2⟩;clear cs x0 x1 x2 x3 x4 x5 x6 x7 x8 x9 x10 x11 x12 x13;go_wp2_with fail;go_ret;exact⟨rfl,J5 HB.out hb2⟩
 | true =>
  rw[if_neg (by simp)]at hR
  have HR:=J1 hR;clear hR;go_wp2_with fail;refine cs.mono ?_;rintro e w2 ⟨rfl,hb2⟩;clear cs x0 x1 x2 x3 x4 x5 x6 x7 x8 x9 x10 x11 x12 x13;obtain⟨x0,x1,x2,x3,x4,x5,x6,x7,x8,x9,x10,x11,x12,x13⟩:=HP.out.below hb2 HLT.out;go_wp2_with fail;refine(CS2.out w2 hb2).mono ?_;rintro e w3 ⟨pv,rfl,hpv,hb3⟩;clear x0 x1 x2 x3 x4 x5 x6 x7 x8 x9 x10 x11 x12 x13;have HPV:=J1 hpv;obtain⟨B,cb,rfl,_,_⟩:=hpv;obtain⟨k,hk⟩:∃k,k=L.length:=⟨_,rfl⟩;have HK:=J1 hk;rw[←hk]
  have hsk:k≤2002:=by have:=HSZ.out;omega
  have hb3':=J5 hb2 hb3;clear hk;go_wp2_with fail
  go_loopw [20] (fun i wr=>∃q:Nat,q≤k∧i=.int .i64 q∧Hid ((L.take q).any (Ck.out cols l r)=false)∧Below w3 w3 wr) (fun i _=>k-(intOf i).toNat)
  case atStart=>exact⟨0,E3 _,rfl,J1 (by simp),Below.refl _ _⟩
  case round =>
   obtain⟨q,hq,rfl,hno,hb⟩:=hrel
   by_cases hlt:q<k
   ·obtain⟨x,gx⟩:∃x,L[q]?=some x:=⟨L[q]'(by have:=HK.out;omega),A8 _⟩
    obtain⟨A4,c4,hA4,_,hx⟩:=A1F HPV.out hb (C3 _);obtain⟨b1,o1,p1,rfl,_,y0,y1⟩:=hx q x gx
    have e1:B=some ⟨b1,o1,p1⟩:=by cases hA4;rfl
    subst e1
    have ht:L.take (q+1)=L.take q++[x]:=by rw[D7,gx];rfl
    have Gx:=J1 gx;have Ht:=J1 ht;clear gx hx hA4 ht;obtain⟨x1,x2⟩:=x;dsimp only at y0 y1;obtain⟨W5,hW5⟩:∃W5,W5=wr.alloc (Obj.cells #[x1,x2] 140):=⟨_,rfl⟩;obtain⟨l5,hb5⟩:=B0k hW5;have z0:=l5.c 0 rfl;have z1:=l5.c 1 rfl;have HW5:=J1 hW5;have hb5':=J5 hb hb5;clear hW5 l5 hb5 hb
    go_upto_region 6 with(fail)
    rw[←HW5.out];clear y0 y1
    go_quiet (fail)
    obtain⟨W6,hW6⟩:∃W6,W6=W5.drewN nq:=⟨_,rfl⟩;rw[←hW6]
    have hb6:Below w3 w3 W6:=by rw[hW6];exact N2 hb5' nq
    have ch:=A7b ((l ||| r:Nat):Int) x1 W6 (U64.of (Nat.or_lt_two_pow (n:=64) hl hr))
    rw[Int.toNat_natCast,←HOR.out]at ch;clear hW6 hb5' z0 z1
    by_cases hh:St.hasB (l ||| r) x1=true
    ·have hin:∃q1:Nat,x1=q1∧q1<n:=by
      have h2:=hh;unfold St.hasB at h2;simp only[E7,decide_eq_true_eq]at h2
      exact⟨x1.toNat,by omega,by rw[HN.out];exact HLR.out _ h2.2.2⟩
     obtain⟨q1,rfl,hq1⟩:=hin
     obtain⟨m,hm⟩:∃m,cols[q1]?=some m:=⟨cols[q1]'(by have:=HN.out;omega),A8 _⟩
     obtain⟨b2,o2,p2,rfl,_,u0⟩:=(HC.out.below (J5 hb3' hb6) (C3 _)).ints_at hm;have hout:=Ck.out_yes (x:=((q1:Int),x2)) hh rfl hm;rw[hh]at ch
     by_cases hm2:m≤x2
     ·rw[decide_eq_true hm2]at hout
      have hr10:R=10:=by
       rw[HR.out,if_pos (F4.2 ⟨_,C8 Gx.out,hout⟩)]
      subst hr10;clear hh hout;go_wp2_with fail;refine ch.mono ?_;rintro e w' ⟨rfl,rfl⟩;clear ch;go_wp2_with fail;go_ret;exact⟨rfl,J5 HB.out (J5 hb3' hb6)⟩
     ·rw[decide_eq_false hm2]at hout
      have hno2:Hid ((L.take (q+1)).any (Ck.out cols l r)=false):=J1 (by rw[Ht.out,List.any_append,hno.out,List.any_cons,List.any_nil,hout];rfl)
      clear hh hout;go_wp2_with fail;refine ch.mono ?_;rintro e w' ⟨rfl,rfl⟩;clear ch;go_wp2_with fail
      go_roundw
      case rel=>exact⟨q+1,by omega,by go_num,hno2,hb6⟩
      case measure=>simp[intOf];omega
    ·have hh2:St.hasB (l ||| r) x1=false:=by simpa using hh
     have hout:=Ck.out_no (cols:=cols) (x:=(x1,x2)) hh2
     have hr10:R=10:=by
      rw[HR.out,if_pos (F4.2 ⟨_,C8 Gx.out,hout⟩)]
     subst hr10;rw[hh2]at ch;clear hh hh2 hout;go_wp2_with fail;refine ch.mono ?_;rintro e w' ⟨rfl,rfl⟩;clear ch;go_wp2_with fail;go_ret;exact⟨rfl,J5 HB.out (J5 hb3' hb6)⟩
   ·have hany:L.any (Ck.out cols l r)=false:=by rw[←hno.out,C7 (by have:=HK.out;omega)]
    have hR2:R=if T &&& l=0∨T &&& r=0 then 11 else 0:=by rw[HR.out,if_neg (by rw[hany];simp)]
    have hb7:=J5 hb3' hb;obtain⟨x0,x1,x2,x3,x4,x5,x6,x7,x8,x9,x10,x11,x12,x13⟩:=HP.out.below hb7 HLT.out;have ct:=CS3.out wr hb7;clear hany
    by_cases t1:T &&& l=0
    ·rw[if_pos (.inl t1)]at hR2;subst hR2;have e1:=HA1.out;rw[t1]at e1;have E1:=J1 e1;clear e1 t1;go_wp2_with fail;refine ct.mono ?_;rintro e w8 ⟨rfl,hb8⟩;clear ct x0 x1 x2 x3 x4 x5 x6 x7 x8 x9 x10 x11 x12 x13
     go_wp2_with (first | (rw[E1.out];go_in))
     go_ret;exact⟨rfl,J5 HB.out (J5 hb7 hb8)⟩
    ·have e1:=HA1.out
     have n1:(((T &&& l:Nat):Int) == 0)=false:=by simpa using t1
     have E1:=J1 e1;clear e1
     by_cases t2:T &&& r=0
     ·rw[if_pos (.inr t2)]at hR2;subst hR2;have e2:=HA2.out;rw[t2]at e2;have E2:=J1 e2;clear e2 t2 t1;go_wp2_with fail;refine ct.mono ?_;rintro e w8 ⟨rfl,hb8⟩;clear ct x0 x1 x2 x3 x4 x5 x6 x7 x8 x9 x10 x11 x12 x13;have a1:=E1.out;have a2:=E2.out;go_wp2_with fail;go_ret;exact⟨rfl,J5 HB.out (J5 hb7 hb8)⟩
     ·rw[if_neg (by simp[t1,t2])]at hR2
      subst hR2
      have n2:(((T &&& r:Nat):Int) == 0)=false:=by simpa using t2
      have E2:=HA2.out;clear t2 t1;go_wp2_with fail;refine ct.mono ?_;rintro e w8 ⟨rfl,hb8⟩;clear ct x0 x1 x2 x3 x4 x5 x6 x7 x8 x9 x10 x11 x12 x13;have a1:=E1.out;go_wp2_with fail;go_ret;exact⟨rfl,J5 HB.out (J5 hb7 hb8)⟩
theorem A6r (d:Nat) (f:Pf) (u:Value) (ps:List Pd) (cv:Value) (cols:List Int) (l r:Nat) (w:World) (hu:PsAt d w u ps) (hc:Sl w cv (cols.map (Value.int .i64))) (hl:l<18446744073709551616) (hr:r<18446744073709551616)
  (hlr:∀j,(l ||| r).testBit j=true→j<cols.length) (hsz:Pr.sizes ps≤1000) :
  Calls Tryz.prog 108 #[.agg #[f.k,f.u,f.o,f.a.k,f.a.t,f.a.c,f.a.z,f.a.n,f.b.k,f.b.t,f.b.c,f.b.z,f.b.n,u],cv,.int .u64 (l:Int),.int .u64 (r:Int)] w
   fun e w'=>e=.returned (.int .i64 (Ck.conj cols l r (.mk f ps)))∧Below w w w':=by
 obtain⟨A,c,rfl,hlen⟩:=hu.form;obtain⟨W0,hW0⟩:∃W0,W0=w.alloc (Obj.cells #[f.k,f.u,f.o,f.a.k,f.a.t,f.a.c,f.a.z,f.a.n,f.b.k,f.b.t,f.b.c,f.b.z,f.b.n,.slice A ps.length c] 57):=⟨_,rfl⟩;obtain⟨l0,p0,hb0⟩:=V9 hW0;have hlt0:=l0.lt;have cs:=A3X d f _ ps W0 (hu.below hb0 (C3 _))
 have cs2:=fun W (h:Below W0 W0 W)=>(A5j d f _ ps W ((hu.below hb0 (C3 _)).below h (C3 _)) hsz).mono fun e w' h=>A4J h (by have:=Pr.cols_len (.mk f ps);rw[Pr.size]at this;omega)
 have cs3:=fun W (h:Below W0 W0 W)=>A28 d f _ ps W ((hu.below hb0 (C3 _)).below h (C3 _));have CS2:=J1 cs2;have CS3:=J1 cs3;have HP:=J1 p0;have HC:=J1 (hc.below hb0 (C3 _));have HLR:=J1 hlr;have HW:=J1 hW0;have HB:=J1 hb0;have HLT:=J1 hlt0;have HLEN:=J1 (Pr.cols_len (.mk f ps))
 have hsz2:Pr.size (.mk f ps)=1+Pr.sizes ps:=by rw[Pr.size]
 have HTL:=J1 (A0b (.mk f ps));obtain⟨C,cc,hcv,_⟩:=hc;subst hcv;rw[E0]at HC ⊢;obtain⟨n,hnn⟩:∃n,n=cols.length:=⟨_,rfl⟩;rw[←hnn]at HC ⊢;have HN:=J1 hnn;have HOR:=J1 (u64_or_nat l r hl hr);obtain⟨R,hR⟩:∃R,R=Ck.conj cols l r (.mk f ps):=⟨_,rfl⟩;obtain⟨L,hL⟩:∃L,L=Pr.cols (.mk f ps):=⟨_,rfl⟩;obtain⟨T,hT⟩:∃T,T=Pr.tables (.mk f ps):=⟨_,rfl⟩;rw[←hR];unfold Ck.conj at hR;rw[←hL,←hT]at hR;rw[←hL]at HLEN;rw[←hT]at HTL;simp only[←hL]at CS2;simp only[←hT]at CS3
 have HSZ:=J1 (show L.length≤2002 by have:=HLEN.out;omega)
 obtain⟨rt,hrt⟩:∃rt,rt=Pr.rightAt (.mk f ps) 1:=⟨_,rfl⟩;rw[←hrt]at hR cs;have HA1:=J1 (u64_and_nat T l HTL.out hl);have HA2:=J1 (u64_and_nat T r HTL.out hr);clear hu hlr hW0 hb0 l0 hlt0 cs2 cs3 hL hT hrt hnn hsz hsz2 HLEN;obtain⟨x0,x1,x2,x3,x4,x5,x6,x7,x8,x9,x10,x11,x12,x13⟩:=p0;go_enter Tryz.func108,Tryz.ntmps108
 go_upto_region 1 with(fail)
 rw[←HW.out]
 cases rt with
 | false =>
  rw[if_pos rfl]at hR;subst hR;go_wp2_with fail;refine cs.mono ?_;rintro e w2 ⟨rfl,hb2⟩;clear cs x0 x1 x2 x3 x4 x5 x6 x7 x8 x9 x10 x11 x12 x13;go_wp2_with fail;go_ret;exact⟨rfl,J5 HB.out hb2⟩
 | true =>
  rw[if_neg (by simp)]at hR
  have HR:=J1 hR;clear hR;go_wp2_with fail;refine cs.mono ?_;rintro e w2 ⟨rfl,hb2⟩;clear cs x0 x1 x2 x3 x4 x5 x6 x7 x8 x9 x10 x11 x12 x13;obtain⟨x0,x1,x2,x3,x4,x5,x6,x7,x8,x9,x10,x11,x12,x13⟩:=HP.out.below hb2 HLT.out;go_wp2_with fail;refine(CS2.out w2 hb2).mono ?_;rintro e w3 ⟨pv,rfl,hpv,hb3⟩;clear x0 x1 x2 x3 x4 x5 x6 x7 x8 x9 x10 x11 x12 x13;have HPV:=J1 hpv;obtain⟨B,cb,rfl,_,_⟩:=hpv;obtain⟨k,hk⟩:∃k,k=L.length:=⟨_,rfl⟩;have HK:=J1 hk;rw[←hk]
  have hsk:k≤2002:=by have:=HSZ.out;omega
  have hb3':=J5 hb2 hb3;clear hk;go_wp2_with fail
  go_loopw [10] (fun i wr=>∃q:Nat,q≤k∧i=.int .i64 q∧Hid ((L.take q).any (Ck.out cols l r)=false)∧Below w3 w3 wr) (fun i _=>k-(intOf i).toNat)
  case atStart=>exact⟨0,E3 _,rfl,J1 (by simp),Below.refl _ _⟩
  case round =>
   obtain⟨q,hq,rfl,hno,hb⟩:=hrel
   by_cases hlt:q<k
   ·obtain⟨x,gx⟩:∃x,L[q]?=some x:=⟨L[q]'(by have:=HK.out;omega),A8 _⟩
    obtain⟨A4,c4,hA4,_,hx⟩:=A1F HPV.out hb (C3 _);obtain⟨b1,o1,p1,rfl,_,y0,y1⟩:=hx q x gx
    have e1:B=some ⟨b1,o1,p1⟩:=by cases hA4;rfl
    subst e1
    have ht:L.take (q+1)=L.take q++[x]:=by rw[D7,gx];rfl
    have Gx:=J1 gx;have Ht:=J1 ht;clear gx hx hA4 ht;obtain⟨x1,x2⟩:=x;dsimp only at y0 y1;have chl:=fun W=>A4G (l:Int) x1 W (U64.of hl);have chr:=fun W=>A4G (r:Int) x1 W (U64.of hr);simp only[Int.toNat_natCast]at chl chr;replace chl:=fun W=>(chl W).mono fun e w' h=>(⟨h.1,h.2.symm⟩:_∧w'=W);replace chr:=fun W=>(chr W).mono fun e w' h=>(⟨h.1,h.2.symm⟩:_∧w'=W);have hb6:=hb
    by_cases hh:St.hasB (l ||| r) x1=true
    ·have hin:∃q1:Nat,x1=q1∧q1<n:=by
      have h2:=hh;unfold St.hasB at h2;simp only[E7,decide_eq_true_eq]at h2
      exact⟨x1.toNat,by omega,by rw[HN.out];exact HLR.out _ h2.2.2⟩
     obtain⟨q1,rfl,hq1⟩:=hin
     obtain⟨m,hm⟩:∃m,cols[q1]?=some m:=⟨cols[q1]'(by have:=HN.out;omega),A8 _⟩
     obtain⟨b2,o2,p2,rfl,_,u0⟩:=(HC.out.below (J5 hb3' hb6) (C3 _)).ints_at hm;have hout:=Ck.out_yes (x:=((q1:Int),x2)) hh rfl hm;rw[Ck.has_or,Bool.or_eq_true]at hh
     by_cases hm2:m≤x2
     ·rw[decide_eq_true hm2]at hout
      have hr10:R=10:=by
       rw[HR.out,if_pos (F4.2 ⟨_,C8 Gx.out,hout⟩)]
      subst hr10;clear hout
      cases hbl:St.hasB l (q1:Int)with
      | true =>
       rw[hbl]at chl;clear hh hbl
       go_upto_region 7 with(fail)
       go_quiet ((go_at_call 131;(with_reducible exact Calls.quiet_of_same (chl _))))
       go_wp2_with fail;go_ret;exact⟨rfl,J5 HB.out (J5 hb3' (N2 hb6 _))⟩
      | false =>
       have hbr:St.hasB r (q1:Int)=true:=by rw[hbl]at hh;simpa using hh
       rw[hbl]at chl;rw[hbr]at chr;clear hh hbl hbr
       go_upto_region 7 with(fail)
       go_quiet ((go_at_call 131;first | (with_reducible exact Calls.quiet_of_same (chl _)) | (with_reducible exact Calls.quiet_of_same (chr _))))
       go_wp2_with fail;go_ret;exact⟨rfl,J5 HB.out (J5 hb3' (N2 hb6 _))⟩
     ·rw[decide_eq_false hm2]at hout
      have hno2:Hid ((L.take (q+1)).any (Ck.out cols l r)=false):=J1 (by rw[Ht.out,List.any_append,hno.out,List.any_cons,List.any_nil,hout];rfl)
      clear hout
      cases hbl:St.hasB l (q1:Int)with
      | true =>
       rw[hbl]at chl;clear hh hbl
       go_upto_region 7 with(fail)
       go_quiet ((go_at_call 131;(with_reducible exact Calls.quiet_of_same (chl _))))
       go_wp2_with fail
       go_roundw
       case rel=>exact⟨q+1,by omega,by go_num,hno2,N2 hb6 _⟩
       case measure=>simp[intOf];omega
      | false =>
       have hbr:St.hasB r (q1:Int)=true:=by rw[hbl]at hh;simpa using hh
       rw[hbl]at chl;rw[hbr]at chr;clear hh hbl hbr
       go_upto_region 7 with(fail)
       go_quiet ((go_at_call 131;first | (with_reducible exact Calls.quiet_of_same (chl _)) | (with_reducible exact Calls.quiet_of_same (chr _))))
       go_wp2_with fail
       go_roundw
       case rel=>exact⟨q+1,by omega,by go_num,hno2,N2 hb6 _⟩
       case measure=>simp[intOf];omega
    ·have hh2:St.hasB (l ||| r) x1=false:=by simpa using hh
     have hout:=Ck.out_no (cols:=cols) (x:=(x1,x2)) hh2
     have hr10:R=10:=by
      rw[HR.out,if_pos (F4.2 ⟨_,C8 Gx.out,hout⟩)]
     subst hr10;rw[Ck.has_or,Bool.or_eq_false_iff]at hh2;rw[hh2.1]at chl;rw[hh2.2]at chr;clear hh hh2 hout
     go_upto_region 7 with(fail)
     go_quiet ((go_at_call 131;first | (with_reducible exact Calls.quiet_of_same (chl _)) | (with_reducible exact Calls.quiet_of_same (chr _))))
     go_wp2_with fail;go_ret;exact⟨rfl,J5 HB.out (J5 hb3' (N2 hb6 _))⟩
   ·have hany:L.any (Ck.out cols l r)=false:=by rw[←hno.out,C7 (by have:=HK.out;omega)]
    have hR2:R=if T &&& l=0∨T &&& r=0 then 11 else 0:=by rw[HR.out,if_neg (by rw[hany];simp)]
    have hb7:=J5 hb3' hb;obtain⟨x0,x1,x2,x3,x4,x5,x6,x7,x8,x9,x10,x11,x12,x13⟩:=HP.out.below hb7 HLT.out;have ct:=CS3.out wr hb7;clear hany
    by_cases t1:T &&& l=0
    ·rw[if_pos (.inl t1)]at hR2;subst hR2;have e1:=HA1.out;rw[t1]at e1;have E1:=J1 e1;clear e1 t1;go_wp2_with fail;refine ct.mono ?_;rintro e w8 ⟨rfl,hb8⟩;clear ct x0 x1 x2 x3 x4 x5 x6 x7 x8 x9 x10 x11 x12 x13
     go_wp2_with (first | (rw[E1.out];go_in))
     go_ret;exact⟨rfl,J5 HB.out (J5 hb7 hb8)⟩
    ·have e1:=HA1.out
     have n1:(((T &&& l:Nat):Int) == 0)=false:=by simpa using t1
     have E1:=J1 e1;clear e1
     by_cases t2:T &&& r=0
     ·rw[if_pos (.inr t2)]at hR2;subst hR2;have e2:=HA2.out;rw[t2]at e2;have E2:=J1 e2;clear e2 t2 t1;go_wp2_with fail;refine ct.mono ?_;rintro e w8 ⟨rfl,hb8⟩;clear ct x0 x1 x2 x3 x4 x5 x6 x7 x8 x9 x10 x11 x12 x13;have a1:=E1.out;have a2:=E2.out;go_wp2_with fail;go_ret;exact⟨rfl,J5 HB.out (J5 hb7 hb8)⟩
     ·rw[if_neg (by simp[t1,t2])]at hR2
      subst hR2
      have n2:(((T &&& r:Nat):Int) == 0)=false:=by simpa using t2
      have E2:=HA2.out;clear t2 t1;go_wp2_with fail;refine ct.mono ?_;rintro e w8 ⟨rfl,hb8⟩;clear ct x0 x1 x2 x3 x4 x5 x6 x7 x8 x9 x10 x11 x12 x13;have a1:=E1.out;go_wp2_with fail;go_ret;exact⟨rfl,J5 HB.out (J5 hb7 hb8)⟩
def Ck.oneR (cols came:List Int) (t:Tr) (c:Nat):Int:=if Ck.what cols t c≠0 then Ck.what cols t c else if t.k=0∧t.t∈came then 6 else 0
theorem Ck.oneR_bad {cols came:List Int} {t:Tr} {c:Nat} (h:Ck.alone cols.length t (c+t.cs.length)≠0):Ck.oneR cols came t c=Ck.alone cols.length t (c+t.cs.length):=by
 have e:Ck.what cols t c=Ck.alone cols.length t (c+t.cs.length):=by unfold Ck.what;rw[if_pos h]
 unfold Ck.oneR;rw[e,if_pos h]
theorem Ck.oneR_leaf {cols came:List Int} {t:Tr} {c:Nat} (h:Ck.alone cols.length t (c+t.cs.length)=0) (hk:t.k=0):Ck.oneR cols came t c=if t.t∈came then 6 else 0:=by
 have e:Ck.what cols t c=0:=by unfold Ck.what;rw[if_neg (not_not_intro h),if_pos hk]
 unfold Ck.oneR
 rw[e,if_neg (by simp)]
 simp[hk]
theorem Ck.oneR_op {cols came:List Int} {t:Tr} {c:Nat} (h:Ck.alone cols.length t (c+t.cs.length)=0) (hk:t.k≠0):Ck.oneR cols came t c=Ck.conjs cols (Ck.ksn t 0) (Ck.ksn t 1) t.cs:=by
 have e:Ck.what cols t c=Ck.conjs cols (Ck.ksn t 0) (Ck.ksn t 1) t.cs:=by unfold Ck.what;rw[if_neg (not_not_intro h),if_neg hk]
 unfold Ck.oneR;rw[e]
 by_cases hz:Ck.conjs cols (Ck.ksn t 0) (Ck.ksn t 1) t.cs=0
 ·rw[if_neg (not_not_intro hz),if_neg (fun x=>hk x.1),hz]
 ·rw[if_pos hz]
theorem Ck.doc_at (cols:List Int) (t:Tr) (r:List Tr) (came:List Int) (c:Nat):Ck.doc cols (t::r) came c=if Ck.oneR cols came t c≠0 then Ck.oneR cols came t c else Ck.doc cols r (Ck.comes t came) (c+t.cs.length):=by
 rw[Ck.doc];unfold Ck.oneR
 by_cases h:Ck.what cols t c≠0
 ·simp[h]
 ·by_cases h2:t.k=0∧t.t∈came
  ·simp[h,h2]
  ·simp[h,h2]
theorem Ck.conjs_take {cols:List Int} {l r:Nat} {L:List Pd} {q:Nat} {p:Pd} (h:Ck.conjs cols l r (L.take q)=0) (hp:L[q]?=some p) :
  (Ck.conj cols l r p=0→Ck.conjs cols l r (L.take (q+1))=0)∧(Ck.conj cols l r p≠0→Ck.conjs cols l r L=Ck.conj cols l r p):=by
 induction L generalizing q with
 | nil=>simp at hp
 | cons a t ih =>
  cases q with
  | zero =>
   simp at hp
   subst hp;refine⟨fun h0=>?_,fun h0=>?_⟩
   ·rw[List.take_succ_cons,F8,Ck.conjs,if_neg (not_not_intro h0),Ck.conjs]
   ·rw[Ck.conjs,if_pos h0]
  | succ q =>
   rw[List.take_succ_cons,Ck.conjs]at h
   split at h
   ·rename_i hh;exact absurd h hh
   ·rename_i hh
    obtain⟨i1,i2⟩:=ih h (by simpa using hp)
    refine⟨fun h0=>?_,fun h0=>?_⟩
    ·rw[List.take_succ_cons,Ck.conjs,if_neg hh];exact i1 h0
    ·rw[Ck.conjs,if_neg hh];exact i2 h0
theorem A73 (a:Tr) (u v cv mv:Value) (cols came:List Int) (c0:Nat) (w:World) (hu:∃d,TsAt d w u a.ks) (hv:PsSome w v a.cs) (hc:Sl w cv (cols.map (Value.int .i64))) (hm:Sl w mv (came.map (Value.int .i64))) (hml:came.length≤9223372036854775807) (hc6:c0≤64)
  (hfine:∀i j,(Ck.ksn a i).testBit j=true→j<cols.length) (hsz:Tr.size a≤1000) :
  Calls Tryz.prog 67 #[.agg #[a.k,a.t,u,v,a.h],cv,mv,(c0:Int)] w
   fun e w'=>e=.returned (.int .i64 (Ck.oneR cols came a c0))∧Below w w w':=by
 obtain⟨A,c,rfl,hlu⟩:=hu.elim fun d h=>h.form;obtain⟨A',c',rfl,hlv⟩:=hv.elim fun d h=>h.form;obtain⟨W1,hW1⟩:∃W1,W1=w.alloc (Obj.cells #[a.k,a.t,.slice A a.ks.length c,.slice A' a.cs.length c',a.h] 26):=⟨_,rfl⟩;obtain⟨l0,p0,hb0⟩:=A0a (a:=a) (u:=.slice A a.ks.length c) (v:=.slice A' a.cs.length c') hW1;have HU:=J1 (hu.elim fun d h=>(⟨d,h.below hb0 (C3 _)⟩:∃d,TsAt d W1 (.slice A a.ks.length c) a.ks));have HV:=J1 (hv.below hb0 (C3 _));have HC:=J1 (hc.below hb0 (C3 _));have HM:=J1 (hm.below hb0 (C3 _));have HP:=J1 p0;have HLT:=J1 l0.lt;have HW:=J1 hW1;have HB:=J1 hb0;have HF:=J1 hfine
 have hcsl:a.cs.length≤1000∧Pr.sizes a.cs≤1000:=by
  have h1:=Tr.size_at a;have h2:=Pr.sizes_length a.cs;omega
 have HSZ:=J1 hcsl;obtain⟨C,cc,rfl,_⟩:=hc;obtain⟨M,mc,rfl,_⟩:=hm;rw[E0]at HC ⊢;rw[E0]at HM ⊢;obtain⟨R,hR⟩:∃R,R=Ck.oneR cols came a c0:=⟨_,rfl⟩;rw[←hR];obtain⟨al,hal⟩:∃al,al=Ck.alone cols.length a (c0+a.cs.length):=⟨_,rfl⟩
 have HBAD:=J1 (show al≠0→R=al from fun e=>by rw[hR,hal];exact Ck.oneR_bad (hal ▸ e))
 have HLEAF:=J1 (show al=0→a.k=0→R=if a.t∈came then 6 else 0 from fun e hk=>by rw[hR];exact Ck.oneR_leaf (hal ▸ e) hk)
 have HOP:=J1 (show al=0→a.k≠0→R=Ck.conjs cols (Ck.ksn a 0) (Ck.ksn a 1) a.cs from fun e hk=>by rw[hR];exact Ck.oneR_op (hal ▸ e) hk)
 clear hR;unfold Ck.alone at hal;obtain⟨nc,hnc⟩:∃nc,nc=cols.length:=⟨_,rfl⟩;obtain⟨nm,hnm⟩:∃nm,nm=came.length:=⟨_,rfl⟩;obtain⟨m,hmm⟩:∃m,m=a.ks.length:=⟨_,rfl⟩;obtain⟨n,hn⟩:∃n,n=a.cs.length:=⟨_,rfl⟩;rw[←hnc]at HC hal ⊢;rw[←hnm]at HM hml ⊢;rw[←hmm]at hlu HU hal HW HP p0 ⊢;rw[←hn]at hlv HV hal HW HP p0 hcsl ⊢;have HNC:=J1 hnc;have HNM:=J1 hnm;have HMM:=J1 hmm;have HN:=J1 hn;obtain⟨q0,q1,q2,q3,q4⟩:=p0;obtain⟨k,hk⟩:∃k,k=a.k:=⟨_,rfl⟩;obtain⟨t,ht⟩:∃t,t=a.t:=⟨_,rfl⟩;obtain⟨h,hh⟩:∃h,h=a.h:=⟨_,rfl⟩;rw[←hk]at q0 HW hal HLEAF HOP ⊢;rw[←ht]at q1 HW hal HLEAF ⊢;rw[←hh]at q4 HW hal ⊢;have HKT:=J1 (J0 hk ht);clear hu hv l0 hb0 hW1 hfine hsz hnc hnm hmm hn hk ht hh
 by_cases k0:k<0
 ·rw[if_pos (.inl k0)]at hal
  obtain rfl:=(HBAD.out (by omega)).trans hal
  go_enter Tryz.func67,Tryz.ntmps67
  go_upto_region 1 with(fail)
  rw[←HW.out];go_wp2_with fail;go_ret;exact⟨rfl,HB.out⟩
 by_cases k4:4<k
 ·rw[if_pos (.inr (.inl k4))]at hal
  obtain rfl:=(HBAD.out (by omega)).trans hal
  go_enter Tryz.func67,Tryz.ntmps67
  go_upto_region 1 with(fail)
  rw[←HW.out];go_wp2_with fail;go_ret;exact⟨rfl,HB.out⟩
 by_cases kz:k=0
 ·subst kz;cases h
  ·rw[if_neg (by simp)]at hal
   by_cases m0:m=0
   ·subst m0
    rw[if_neg (by simp)]at hal
    by_cases m1:n=0
    ·subst m1
     rw[if_neg (by omega),if_pos rfl]at hal
     by_cases t0:t<0
     ·rw[if_pos (.inl t0)]at hal
      obtain rfl:=(HBAD.out (by omega)).trans hal
      go_enter Tryz.func67,Tryz.ntmps67
      go_upto_region 1 with(fail)
      rw[←HW.out];go_wp2_with fail;go_ret;exact⟨rfl,HB.out⟩
     by_cases tn:(nc:Int)≤t
     ·rw[if_pos (.inr tn)]at hal
      obtain rfl:=(HBAD.out (by omega)).trans hal
      go_enter Tryz.func67,Tryz.ntmps67
      go_upto_region 1 with(fail)
      rw[←HW.out];go_wp2_with fail;go_ret;exact⟨rfl,HB.out⟩
     ·rw[if_neg (by omega)]at hal
      have HR:=J1 (HLEAF.out hal rfl);go_enter Tryz.func67,Tryz.ntmps67
      go_upto_region 1 with(fail)
      rw[←HW.out];go_wp2_with fail
      go_loopw [9] (fun i wr=>∃q:Nat,q≤nm∧i=.int .i64 q∧Hid (t∉came.take q)∧∃z,wr=W1.drewN z) (fun i _=>nm-(intOf i).toNat)
      case atStart=>exact⟨0,E3 _,rfl,J1 (by simp),0,rfl⟩
      case round =>
       obtain⟨q,hq,rfl,hno,z,rfl⟩:=hrel
       by_cases hlt:q<nm
       ·obtain⟨x,gx⟩:∃x,came[q]?=some x:=⟨came[q]'(by have:=HNM.out;omega),A8 _⟩
        obtain⟨b2,o2,p2,rfl,_,u0⟩:=HM.out.ints_at gx
        by_cases hxt:x=t
        ·subst hxt
         have hr6:R=6:=by rw[HR.out,if_pos (C8 gx)]
         subst hr6;clear gx hno
         go_upto_region 15 with(fail)
         go_quiet (fail)
         go_wp2_with fail;go_ret;exact⟨rfl,N2 (N2 HB.out _) _⟩
        ·have hxt':(x == t)=false:=by simpa using hxt
         have hno2:Hid (t∉came.take (q+1)):=J1 (by
          rw[D7,gx];simp only[Option.toList_some,G3,G4,not_or];exact⟨hno.out,fun e=>hxt e.symm⟩)
         clear gx hno
         go_upto_region 15 with(fail)
         go_quiet (fail)
         go_wp2_with fail
         go_roundw
         case rel=>exact⟨q+1,by omega,by go_num,hno2,_,rfl⟩
         case measure=>simp[intOf];omega
       ·have hr0:R=0:=by
         rw[HR.out,if_neg]
         rw[←C7 (i:=q) (l:=came) (by have:=HNM.out;omega)]
         exact hno.out
        subst hr0;go_wp2_with fail;go_ret;exact⟨rfl,N2 HB.out _⟩
    ·rw[if_pos (by omega)]at hal
     obtain rfl:=(HBAD.out (by omega)).trans hal
     have hpos:0<n:=by omega
     go_enter Tryz.func67,Tryz.ntmps67
     go_upto_region 1 with(fail)
     rw[←HW.out];go_wp2_with fail;go_ret;exact⟨rfl,HB.out⟩
   ·rw[if_pos (by simpa using m0)]at hal
    obtain rfl:=(HBAD.out (by omega)).trans hal
    have hpos:0<m:=by omega
    go_enter Tryz.func67,Tryz.ntmps67
    go_upto_region 1 with(fail)
    rw[←HW.out];go_wp2_with fail;go_ret;exact⟨rfl,HB.out⟩
  ·rw[if_pos (.inr (.inr ⟨rfl,rfl⟩))]at hal
   obtain rfl:=(HBAD.out (by omega)).trans hal
   go_enter Tryz.func67,Tryz.ntmps67
   go_upto_region 1 with(fail)
   rw[←HW.out];go_wp2_with fail;go_ret;exact⟨rfl,HB.out⟩
 ·have kz':(k == 0)=false:=by simpa using kz
  rw[if_neg (by omega),if_neg kz,if_neg kz]at hal
  by_cases m2:m=2
  ·subst m2
   rw[if_neg (by simp)]at hal
   by_cases m1:n=0
   ·subst m1
    rw[if_pos (by omega)]at hal
    obtain rfl:=(HBAD.out (by omega)).trans hal
    go_enter Tryz.func67,Tryz.ntmps67
    go_upto_region 1 with(fail)
    rw[←HW.out];go_wp2_with fail;go_ret;exact⟨rfl,HB.out⟩
   ·have m1':((n:Int) == 0)=false:=by simpa using m1
    by_cases c6:64<c0+n
    ·rw[if_pos (by omega)]at hal
     obtain rfl:=(HBAD.out (by omega)).trans hal
     have c6':(64:Int)<(c0:Int)+(n:Int):=by omega
     go_enter Tryz.func67,Tryz.ntmps67
     go_upto_region 1 with(fail)
     rw[←HW.out];go_wp2_with fail;go_ret;exact⟨rfl,HB.out⟩
    ·rw[if_neg (by omega)]at hal
     have c6':¬((64:Int)<(c0:Int)+(n:Int)):=by omega
     by_cases t0:t=0
     ·subst t0
      rw[if_neg (by omega)]at hal
      have HR:=J1 (HOP.out hal kz)
      obtain⟨x,y,hks⟩:∃x y,a.ks=[x,y]:=by
       have h2:=HMM.out
       match hkk:a.ks with
       | []=>rw[hkk]at h2;simp at h2
       | [_]=>rw[hkk]at h2;simp at h2
       | [x,y]=>exact⟨x,y,rfl⟩
       | _::_::_::_=>rw[hkk]at h2;simp at h2
      obtain⟨dd,hts⟩:=HU.out;rw[HMM.out]at hts
      obtain⟨e6,b0,o0,s0,u6,v6,_,rfl,hb0l,hX⟩:=hts.at_ (j:=0) (a:=x) (by rw[hks];rfl)
      obtain⟨e8,b0',o0',s0',u8,v8,_,hA8,_,hY⟩:=hts.at_ (j:=1) (a:=y) (by rw[hks];rfl)
      obtain⟨rfl,rfl,rfl⟩:b0=b0'∧o0=o0'∧s0=s0':=by
       simp only[Option.some.injEq,Addr.mk.injEq]at hA8;exact hA8
      obtain⟨B6,d6,rfl,_⟩:=(hX W1 (Below.refl _ _)).2.2.form;obtain⟨B7,d7,rfl,_⟩:=(hX W1 (Below.refl _ _)).2.1.elim fun d h=>h.form;obtain⟨B8,d8,rfl,_⟩:=(hY W1 (Below.refl _ _)).2.2.form;obtain⟨B9,d9,rfl,_⟩:=(hY W1 (Below.refl _ _)).2.1.elim fun d h=>h.form;simp only[Nat.zero_mul,R3]at hX
      have hadd:(⟨b0,o0,s0⟩:Addr).add (1*5)=⟨b0,o0+5,none⟩:=by unfold Addr.add;simp
      simp only[hadd]at hY
      have e0:Ck.ksn a 0=Tr.seen x:=by unfold Ck.ksn;rw[hks];rfl
      have e1:Ck.ksn a 1=Tr.seen y:=by unfold Ck.ksn;rw[hks];rfl
      have hfn:∀j,(Tr.seen x ||| Tr.seen y).testBit j=true→j<cols.length:=fun j hj=>by
       rw[G7,Bool.or_eq_true]at hj
       rcases hj with hj | hj
       ·exact HF.out 0 j (by rw[e0];exact hj)
       ·exact HF.out 1 j (by rw[e1];exact hj)
      have hR2:=HR.out;rw[e0,e1]at hR2;have HR2:=J1 hR2;have HX:=J1 hX;have HY:=J1 hY;have HFN:=J1 hfn;clear hX hY hfn hR2 e0 e1 hts hA8 hks hal HR;have C0:=J1 (fun W (h:Below W1 W1 W)=>(A1B _ x _ (.slice B7 x.cs.length d7) W (HX.out W h).2.2).mono fun e w' ⟨he,hb⟩=>(⟨he,J5 h hb⟩:e=_∧Below W1 W1 w'));have C1:=J1 (fun W (h:Below W1 W1 W)=>(A1B _ y _ (.slice B9 y.cs.length d9) W (HY.out W h).2.2).mono fun e w' ⟨he,hb⟩=>(⟨he,J5 h hb⟩:e=_∧Below W1 W1 w'));go_enter Tryz.func67,Tryz.ntmps67
      go_upto_region 1 with(fail)
      rw[←HW.out];go_wp2_with fail;clear q0 q1 q2 q3 q4
      go_loopw [10] (fun i wr=>∃q:Nat,q≤n∧i=.int .i64 q∧Hid (Ck.conjs cols (Tr.seen x) (Tr.seen y) (a.cs.take q)=0)∧Below W1 W1 wr) (fun i _=>n-(intOf i).toNat)
      case atStart=>exact⟨0,E3 _,rfl,J1 (by simp[Ck.conjs]),Below.refl _ _⟩
      case round =>
       obtain⟨q,hq,rfl,hno,hb⟩:=hrel;have q3:=(HP.out.below hb HLT.out).c3
       by_cases hlt:q<n
       ·obtain⟨p,gp⟩:∃p,a.cs[q]?=some p:=⟨a.cs[q]'(by have:=HN.out;omega),A8 _⟩
        obtain⟨dv,hvv⟩:=HV.out;rw[HN.out]at hvv;obtain⟨e5,b5,o5,s5,u5,_,rfl,_,hP5⟩:=hvv.at_ gp;obtain⟨B5,d5,rfl,_⟩:=(hP5 W1 (Below.refl _ _)).2.form;have HP5:=J1 hP5;obtain⟨z,hz⟩:∃z,z=Ck.conj cols (Tr.seen x) (Tr.seen y) (.mk p.f p.ps):=⟨_,rfl⟩
        have C2:=J1 (fun W (h:Below W1 W1 W)=>(A6r e5 p.f (.slice B5 p.ps.length d5) p.ps (.slice C nc cc) cols (Tr.seen x) (Tr.seen y) W (HP5.out W h).2 (HC.out.below h (C3 _)) (Tr.seen_lt x) (Tr.seen_lt y) HFN.out (by have:=Pr.sizes_down gp;have:=HSZ.out;omega)).mono fun e w' ⟨he,hb⟩=>(⟨by rw[he,←hz],J5 h hb⟩:e=Ending.returned (.int .i64 z)∧Below W1 W1 w'))
        have hpm:Pd.mk p.f p.ps=p:=by cases p;rfl
        rw[hpm]at hz;obtain⟨hgo,hstop⟩:=Ck.conjs_take hno.out gp;rw[←hz]at hgo hstop;have HGO:=J1 hgo;have HST:=J1 hstop;have hS:=hb
        have KK:=J1 (fun W (h:Below W1 W1 W)=>(show(W.cell? ⟨w.heap.size,2,none⟩=some (.slice (some ⟨b0,o0,s0⟩) 2 c)∧W.cell? ⟨w.heap.size,3,none⟩=some (.slice (some ⟨b5,o5,s5⟩) n c')∧W.cell? ((⟨b5,o5,s5⟩:Addr).add (q*14))=some (.int .i64 p.f.k)∧W.cell? ⟨((⟨b5,o5,s5⟩:Addr).add (q*14)).block,((⟨b5,o5,s5⟩:Addr).add (q*14)).off+1,none⟩=some (.int .i64 p.f.u)∧W.cell? ⟨((⟨b5,o5,s5⟩:Addr).add (q*14)).block,((⟨b5,o5,s5⟩:Addr).add (q*14)).off+2,none⟩=some (.int .i64 p.f.o)∧W.cell? ⟨((⟨b5,o5,s5⟩:Addr).add (q*14)).block,((⟨b5,o5,s5⟩:Addr).add (q*14)).off+3,none⟩=some (.int .i64 p.f.a.k)∧W.cell? ⟨((⟨b5,o5,s5⟩:Addr).add (q*14)).block,((⟨b5,o5,s5⟩:Addr).add (q*14)).off+4,none⟩=some (.int .i64 p.f.a.t)∧W.cell? ⟨((⟨b5,o5,s5⟩:Addr).add (q*14)).block,((⟨b5,o5,s5⟩:Addr).add (q*14)).off+5,none⟩=some (.int .i64 p.f.a.c)∧W.cell? ⟨((⟨b5,o5,s5⟩:Addr).add (q*14)).block,((⟨b5,o5,s5⟩:Addr).add (q*14)).off+6,none⟩=some (.bool p.f.a.z)∧W.cell? ⟨((⟨b5,o5,s5⟩:Addr).add (q*14)).block,((⟨b5,o5,s5⟩:Addr).add (q*14)).off+7,none⟩=some (.int .i64 p.f.a.n)∧W.cell? ⟨((⟨b5,o5,s5⟩:Addr).add (q*14)).block,((⟨b5,o5,s5⟩:Addr).add (q*14)).off+8,none⟩=some (.int .i64 p.f.b.k)∧W.cell? ⟨((⟨b5,o5,s5⟩:Addr).add (q*14)).block,((⟨b5,o5,s5⟩:Addr).add (q*14)).off+9,none⟩=some (.int .i64 p.f.b.t)∧W.cell? ⟨((⟨b5,o5,s5⟩:Addr).add (q*14)).block,((⟨b5,o5,s5⟩:Addr).add (q*14)).off+10,none⟩=some (.int .i64 p.f.b.c)∧W.cell? ⟨((⟨b5,o5,s5⟩:Addr).add (q*14)).block,((⟨b5,o5,s5⟩:Addr).add (q*14)).off+11,none⟩=some (.bool p.f.b.z)∧W.cell? ⟨((⟨b5,o5,s5⟩:Addr).add (q*14)).block,((⟨b5,o5,s5⟩:Addr).add (q*14)).off+12,none⟩=some (.int .i64 p.f.b.n)∧W.cell? ⟨((⟨b5,o5,s5⟩:Addr).add (q*14)).block,((⟨b5,o5,s5⟩:Addr).add (q*14)).off+13,none⟩=some (.slice B5 p.ps.length d5)∧W.cell? (⟨b0,o0,s0⟩:Addr)=some (.int .i64 x.k)∧W.cell? ⟨(⟨b0,o0,s0⟩:Addr).block,(⟨b0,o0,s0⟩:Addr).off+1,none⟩=some (.int .i64 x.t)∧W.cell? ⟨(⟨b0,o0,s0⟩:Addr).block,(⟨b0,o0,s0⟩:Addr).off+2,none⟩=some (.slice B6 x.ks.length d6)∧W.cell? ⟨(⟨b0,o0,s0⟩:Addr).block,(⟨b0,o0,s0⟩:Addr).off+3,none⟩=some (.slice B7 x.cs.length d7)∧W.cell? ⟨(⟨b0,o0,s0⟩:Addr).block,(⟨b0,o0,s0⟩:Addr).off+4,none⟩=some (.bool x.h)∧W.cell? ⟨b0,o0+5,none⟩=some (.int .i64 y.k)∧W.cell? ⟨b0,o0+5+1,none⟩=some (.int .i64 y.t)∧W.cell? ⟨b0,o0+5+2,none⟩=some (.slice B8 y.ks.length d8)∧W.cell? ⟨b0,o0+5+3,none⟩=some (.slice B9 y.cs.length d9)∧W.cell? ⟨b0,o0+5+4,none⟩=some (.bool y.h))∧Below W1 W1 W from
         have pt:=HP.out.below h HLT.out;have pp:=(HP5.out W h).1;have px:=(HX.out W h).1;have py:=(HY.out W h).1
         ⟨⟨pt.c2,pt.c3,pp.c0,pp.c1,pp.c2,pp.c3,pp.c4,pp.c5,pp.c6,pp.c7,pp.c8,pp.c9,pp.c10,pp.c11,pp.c12,pp.c13,px.c0,px.c1,px.c2,px.c3,px.c4,py.c0,py.c1,py.c2,py.c3,py.c4⟩,h⟩))
        clear hP5 hz hpm hgo hstop gp hvv hno hb
        go_upto_region 27 with(fail)
        go_region_held3 (fun W=>(W.cell? ⟨w.heap.size,2,none⟩=some (.slice (some ⟨b0,o0,s0⟩) 2 c)∧W.cell? ⟨w.heap.size,3,none⟩=some (.slice (some ⟨b5,o5,s5⟩) n c')∧W.cell? ((⟨b5,o5,s5⟩:Addr).add (q*14))=some (.int .i64 p.f.k)∧W.cell? ⟨((⟨b5,o5,s5⟩:Addr).add (q*14)).block,((⟨b5,o5,s5⟩:Addr).add (q*14)).off+1,none⟩=some (.int .i64 p.f.u)∧W.cell? ⟨((⟨b5,o5,s5⟩:Addr).add (q*14)).block,((⟨b5,o5,s5⟩:Addr).add (q*14)).off+2,none⟩=some (.int .i64 p.f.o)∧W.cell? ⟨((⟨b5,o5,s5⟩:Addr).add (q*14)).block,((⟨b5,o5,s5⟩:Addr).add (q*14)).off+3,none⟩=some (.int .i64 p.f.a.k)∧W.cell? ⟨((⟨b5,o5,s5⟩:Addr).add (q*14)).block,((⟨b5,o5,s5⟩:Addr).add (q*14)).off+4,none⟩=some (.int .i64 p.f.a.t)∧W.cell? ⟨((⟨b5,o5,s5⟩:Addr).add (q*14)).block,((⟨b5,o5,s5⟩:Addr).add (q*14)).off+5,none⟩=some (.int .i64 p.f.a.c)∧W.cell? ⟨((⟨b5,o5,s5⟩:Addr).add (q*14)).block,((⟨b5,o5,s5⟩:Addr).add (q*14)).off+6,none⟩=some (.bool p.f.a.z)∧W.cell? ⟨((⟨b5,o5,s5⟩:Addr).add (q*14)).block,((⟨b5,o5,s5⟩:Addr).add (q*14)).off+7,none⟩=some (.int .i64 p.f.a.n)∧W.cell? ⟨((⟨b5,o5,s5⟩:Addr).add (q*14)).block,((⟨b5,o5,s5⟩:Addr).add (q*14)).off+8,none⟩=some (.int .i64 p.f.b.k)∧W.cell? ⟨((⟨b5,o5,s5⟩:Addr).add (q*14)).block,((⟨b5,o5,s5⟩:Addr).add (q*14)).off+9,none⟩=some (.int .i64 p.f.b.t)∧W.cell? ⟨((⟨b5,o5,s5⟩:Addr).add (q*14)).block,((⟨b5,o5,s5⟩:Addr).add (q*14)).off+10,none⟩=some (.int .i64 p.f.b.c)∧W.cell? ⟨((⟨b5,o5,s5⟩:Addr).add (q*14)).block,((⟨b5,o5,s5⟩:Addr).add (q*14)).off+11,none⟩=some (.bool p.f.b.z)∧W.cell? ⟨((⟨b5,o5,s5⟩:Addr).add (q*14)).block,((⟨b5,o5,s5⟩:Addr).add (q*14)).off+12,none⟩=some (.int .i64 p.f.b.n)∧W.cell? ⟨((⟨b5,o5,s5⟩:Addr).add (q*14)).block,((⟨b5,o5,s5⟩:Addr).add (q*14)).off+13,none⟩=some (.slice B5 p.ps.length d5)∧W.cell? (⟨b0,o0,s0⟩:Addr)=some (.int .i64 x.k)∧W.cell? ⟨(⟨b0,o0,s0⟩:Addr).block,(⟨b0,o0,s0⟩:Addr).off+1,none⟩=some (.int .i64 x.t)∧W.cell? ⟨(⟨b0,o0,s0⟩:Addr).block,(⟨b0,o0,s0⟩:Addr).off+2,none⟩=some (.slice B6 x.ks.length d6)∧W.cell? ⟨(⟨b0,o0,s0⟩:Addr).block,(⟨b0,o0,s0⟩:Addr).off+3,none⟩=some (.slice B7 x.cs.length d7)∧W.cell? ⟨(⟨b0,o0,s0⟩:Addr).block,(⟨b0,o0,s0⟩:Addr).off+4,none⟩=some (.bool x.h)∧W.cell? ⟨b0,o0+5,none⟩=some (.int .i64 y.k)∧W.cell? ⟨b0,o0+5+1,none⟩=some (.int .i64 y.t)∧W.cell? ⟨b0,o0+5+2,none⟩=some (.slice B8 y.ks.length d8)∧W.cell? ⟨b0,o0+5+3,none⟩=some (.slice B9 y.cs.length d9)∧W.cell? ⟨b0,o0+5+4,none⟩=some (.bool y.h))∧Below W1 W1 W) (first | (exact KK.out _ (by repeat first | assumption | refine Below.drew ?_)))
         (first
          | (go_at_call 16;(with_reducible refine(C0.out _ (by repeat first | assumption | refine Below.drew ?_)).mono ?_);rintro e w' ⟨rfl,hS'⟩)
          | (go_at_call 16;(with_reducible refine(C1.out _ (by repeat first | assumption | refine Below.drew ?_)).mono ?_);rintro e w' ⟨rfl,hS'⟩)
          | (go_at_call 108;(with_reducible refine(C2.out _ (by repeat first | assumption | refine Below.drew ?_)).mono ?_);rintro e w' ⟨rfl,hS'⟩)
          | (fail "no arm"))
        all_goals
         by_cases hz0:z=0
         ·subst hz0;have hno2:=J1 (HGO.out rfl);go_wp2_with fail
          go_roundw
          case rel=>exact⟨q+1,by omega,by go_num,hno2,by assumption⟩
          case measure=>simp[intOf];omega
         ·have hz1:(z != 0)=true:=by simpa using hz0
          have hrz:R=z:=HR2.out.trans (HST.out hz0);go_wp2_with fail;go_ret
          exact⟨by first | rfl | (rw[hrz];rfl),J5 HB.out (by assumption)⟩
       ·have hr0:R=0:=by
         rw[HR2.out,←hno.out,C7 (by have:=HN.out;omega)]
        clear hno;go_wp2_with fail;go_ret
        exact⟨by first | rfl | (rw[hr0];rfl),J5 HB.out hb⟩
     ·rw[if_pos (by omega)]at hal
      obtain rfl:=(HBAD.out (by omega)).trans hal
      have t0':(t != 0)=true:=by simpa using t0
      go_enter Tryz.func67,Tryz.ntmps67
      go_upto_region 1 with(fail)
      rw[←HW.out];go_wp2_with fail;go_ret;exact⟨rfl,HB.out⟩
  ·have m2':((m:Int) != 2)=true:=by simp;omega
   rw[if_pos (by simpa using m2)]at hal
   obtain rfl:=(HBAD.out (by omega)).trans hal
   go_enter Tryz.func67,Tryz.ntmps67
   go_upto_region 1 with(fail)
   rw[←HW.out];go_wp2_with fail;go_ret;exact⟨rfl,HB.out⟩
open Go Go.RowKit
def puts (l:List (Nat × Value)) (t:Array Value):Array Value:=l.foldl (fun t s=>t.setIfInBounds s.1 s.2) t
theorem A2G (l m:List (Nat × Value)) (t:Array Value):puts (l++m) t=puts m (puts l t):=List.foldl_append
theorem A6s {l:List (Nat × Value)} {k:Nat} {v:Value}:∀{t:Array Value},(∀s∈l,s.1≠k)→(puts l t).setIfInBounds k v=puts l (t.setIfInBounds k v):=by
 induction l with
 | nil=>intro t _;rfl
 | cons s r ih =>
  intro t h
  show(puts r (t.setIfInBounds s.1 s.2)).setIfInBounds k v=puts r ((t.setIfInBounds k v).setIfInBounds s.1 s.2)
  rw[ih (fun x hx=>h x (F7 _ hx)),Array.setIfInBounds_comm _ _ (h s E9)]
theorem A0C {l:List (Nat × Value)} {k:Nat}:∀{t:Array Value},(∀s∈l,s.1≠k)→(puts l t).getD k undef=t.getD k undef:=by
 induction l with
 | nil=>intro t _;rfl
 | cons s r ih =>
  intro t h
  show(puts r (t.setIfInBounds s.1 s.2)).getD k undef=_
  rw[ih (fun x hx=>h x (F7 _ hx))];rw[Array.getD_eq_getD_getElem?,Array.getD_eq_getD_getElem?,Array.getElem?_setIfInBounds_ne (h s E9)]
theorem A1g {F:Fence} {n:Nat} {P:Program} {id:Nat} {ops:Array Oper} {Q:Exit→Act→World→Prop} {a:Act} {w:World} (hmo:P.follows .mixedOrders=true)
  (m:Nat) (A B:Nat→Nat) (L:Nat→Nat→Array Bool) (I:Nat→Nat→Act→World→Prop) (hsize:ops.size=2*m) (hL:L 0 0=Array.replicate ops.size false)
  (hready:∀p,p≤m→∀q,q≤m→∀i∈Region.ready .any ops (L p q),(p<m∧i=A p∧(L p q).setIfInBounds i true=L (p+1) q)∨(q<m∧i=B q∧(L p q).setIfInBounds i true=L p (q+1)))
  (hend:∀p,p≤m→∀q,q≤m→(Region.ready .any ops (L p q)=[]↔p=m∧q=m))
  (h0:I 0 0 a w.drew)
  (hA:∀p q a w,p<m→q≤m→I p q a w→∀K:Act→World→Prop,(∀a' w',I (p+1) q a' w'→K a' w')→wpOpIn F n P ops Q (A p) K a w)
  (hB:∀p q a w,p≤m→q<m→I p q a w→∀K:Act→World→Prop,(∀a' w',I p (q+1) a' w'→K a' w')→wpOpIn F n P ops Q (B q) K a w)
  (hQ:∀a w,I m m a w→Q .normal a w):(Code.region id ops true).wpIn F n P Q a w:=by
 have key:∀fuel p q,p≤m→q≤m→p+q+fuel=2*m→∀a w,I p q a w→wpAnyIn F n P .any ops Q fuel (L p q) a w:=by
  intro fuel
  induction fuel with
  | zero =>
   intro p q hp hq hs a w h
   obtain⟨rfl,rfl⟩:p=m∧q=m:=by omega
   exact⟨(hend _ hp _ hq).2 ⟨rfl,rfl⟩,hQ _ _ h⟩
  | succ fuel ih =>
   intro p q hp hq hs a w h;refine⟨fun hr=>?_,fun i hi=>?_⟩
   ·obtain⟨rfl,rfl⟩:=(hend p hp q hq).1 hr;exact hQ _ _ h
   ·rcases hready p hp q hq i hi with⟨hlt,rfl,hl⟩ | ⟨hlt,rfl,hl⟩
    ·exact hA p q a w hlt hq h _ fun a' w' h'=>by rw[hl];exact ih (p+1) q hlt hq (by omega) a' w' h'
    ·exact hB p q a w hp hlt h _ fun a' w' h'=>by rw[hl];exact ih p (q+1) hp hlt (by omega) a' w' h'
 refine wpIn_region_any hmo ?_;rw[←hL]
 exact key _ 0 0 (E3 _) (E3 _) (by omega) a _ h0
theorem V8 {l n:Nat} {P:Program} {ops:Array Oper} {i:Nat} {o:Oper} {a:Act} {w:World} {K:Act→World→Prop} {Q:Exit→Act→World→Prop} {v:Value} (ho:ops[i]?=some o) (hg:o.guard=none) (hop:∀c,o.op≠.defer c)
  (hrun:(execOp a.eval o).run P w=.ok (.value v) w) (hK:K (a.put o.dst v) w):wpOpIn (Fence.wide.inRound l) n P ops Q i K a w:=by
 unfold wpOpIn;rw[ho]
 have hw:Region.wanted o (yielded ops a.tmps)=true:=by unfold Region.wanted;rw[hg]
 simp only[hw,if_true];refine⟨fun _ _=>trivial,?_⟩;rw[Oper.semAt_plain _ _ _ hop,hrun];exact hK
theorem A3k {l n:Nat} {P:Program} {ops:Array Oper} {i:Nat} {o:Oper} {a:Act} {w:World} {K:Act→World→Prop} {Q:Exit→Act→World→Prop} {f:FuncId} {args:Array Value} (ho:ops[i]?=some o) (hg:o.guard=none) (hop:∀c,o.op≠.defer c)
  (hrun:(execOp a.eval o).run P w=.ok (.enter f args) w) (hc:Calls P f args w fun e w'=>∃v,e=.returned v∧K (a.put o.dst v) w'):wpOpIn (Fence.wide.inRound l) n P ops Q i K a w:=by
 unfold wpOpIn;rw[ho]
 have hw:Region.wanted o (yielded ops a.tmps)=true:=by unfold Region.wanted;rw[hg]
 simp only[hw,if_true];refine⟨fun _ _=>trivial,?_⟩;rw[Oper.semAt_plain _ _ _ hop,hrun]
 refine⟨fun h=>by simp[Fence.wide,Fence.inRound]at h,?_⟩
 have h2:=(callsIn_wide (n:=n-1)).2 hc;have h3:CallsIn (Fence.wide.inRound l) (n-1) P f args w fun e w'=>∃v,e=.returned v∧K (a.put o.dst v) w':=h2
 exact h3.mono fun e w' h=>by
  obtain⟨v,rfl,h⟩:=h;exact h
theorem Y4 (l:List (Nat × Value)):∀t:Array Value,(puts l t).size=t.size:=by
 induction l with
 | nil=>intro t;rfl
 | cons s r ih=>intro t;show(puts r (t.setIfInBounds s.1 s.2)).size=_;rw[ih];simp
theorem A3a (l:List (Nat × Value)) (k:Nat) (v:Value) (t:Array Value) (hk:k<t.size):(puts (l++[(k,v)]) t).getD k undef=v:=by
 rw[A2G]
 show((puts l t).setIfInBounds k v).getD k undef=v
 rw[Array.getD_eq_getD_getElem?,Array.getElem?_setIfInBounds_self_of_lt (by rw[Y4];exact hk)]
 rfl
theorem putA {A B:List (Nat × Value)} {p k:Nat} {v:Value} {base:Array Value} (h:A[p]?=some (k,v)) (hB:∀s∈B,s.1≠k) :
  ({ tmps:=puts B (puts (A.take p) base),defers:=[] }:Act).put (some k) v={ tmps:=puts B (puts (A.take (p+1)) base),defers:=[] }:=by
 unfold Act.put;dsimp only;rw[A6s hB,D7,h,A2G]
 rfl
theorem putB {B:List (Nat × Value)} {q k:Nat} {v:Value} {X:Array Value} (h:B[q]?=some (k,v)) :
  ({ tmps:=puts (B.take q) X,defers:=[] }:Act).put (some k) v={ tmps:=puts (B.take (q+1)) X,defers:=[] }:=by
 unfold Act.put;dsimp only;rw[D7,h,A2G]
 rfl
theorem S7 {B:List (Nat × Value)} {k q:Nat} (h:∀s∈B,s.1≠k):∀s∈B.take q,s.1≠k:=fun s hs=>h s (List.mem_of_mem_take hs)
theorem A1y {ρ:Operand→Value} {o:Oper} {x:Operand} {q:Nat} (W:World) (hop:o.op=.fieldAddr 26 x 2) (h:ρ x=.pointer (some ⟨q,0,none⟩)):(execOp ρ o).run Tryz.prog W=.ok (.value (.pointer (some ⟨q,2,none⟩))) W:=by
 simp[execOp,hop,h,go_sem]
theorem A70 {ρ:Operand→Value} {o:Oper} {x:Operand} {b f c:Nat} {sp} (W:World) (hop:o.op=.indexAddr 23 x (.const (.int .i64 0))) (hc:∀v,ρ (.const v)=v) (h:ρ x=.slice (some ⟨b,f,sp⟩) 2 c):(execOp ρ o).run Tryz.prog W=.ok (.value (.pointer (some ⟨b,f,sp⟩))) W:=by
 simp[execOp,hop,h,go_sem,hc]
theorem A7Z {ρ:Operand→Value} {o:Oper} {x:Operand} {b f c:Nat} {sp} (W:World) (hop:o.op=.indexAddr 23 x (.const (.int .i64 1))) (hc:∀v,ρ (.const v)=v) (h:ρ x=.slice (some ⟨b,f,sp⟩) 2 c):(execOp ρ o).run Tryz.prog W=.ok (.value (.pointer (some ⟨b,f+5,none⟩))) W:=by
 simp[execOp,hop,h,go_sem,hc]
theorem A1w {ρ:Operand→Value} {o:Oper} {x:Operand} {X:Addr} {b f c:Nat} {sp} (W:World) (hop:o.op=.load 23 x) (h:ρ x=.pointer (some X)) (hx:W.cell? X=some (.slice (some ⟨b,f,sp⟩) 2 c)):(execOp ρ o).run Tryz.prog W=.ok (.value (.slice (some ⟨b,f,sp⟩) 2 c)) W:=by
 simp[execOp,hop,h,go_sem,hx]
theorem A14 {ρ:Operand→Value} {o:Oper} {x:Operand} {X:Addr} {a:Tr} {u v:Value} (W:World) (hop:o.op=.load 26 x) (h:ρ x=.pointer (some X)) (hx:TrCell W X a u v):(execOp ρ o).run Tryz.prog W=.ok (.value (.agg #[a.k,a.t,u,v,a.h])) W:=by
 obtain⟨h0,h1,h2,h3,h4⟩:=hx
 simp[execOp,hop,h,go_sem,h0,h1,h2,h3,h4]
theorem A15 {ρ:Operand→Value} {o:Oper} {x:Operand} {vv:Value} (W:World) (hop:o.op=.call { callee:=.value (.func 26),args:=#[x],argTypes:=#[26] }) (hc:ρ (.func 26)=.func (.func 26) #[] #[]) (h:ρ x=vv):(execOp ρ o).run Tryz.prog W=.ok (.enter 26 #[vv]) W:=by
 simp[execOp,hop,h,go_sem,hc]
theorem A0Z {ρ:Operand→Value} {o:Oper} {x:Operand} {vv:Value} (W:World) (hop:o.op=.assign x) (h:ρ x=vv):(execOp ρ o).run Tryz.prog W=.ok (.value vv) W:=by
 simp[execOp,hop,h,go_sem]
def seenA (q b f c:Nat) (sp:Option Nat) (a:Tr) (u v:Value):List (Nat × Value):=[(39,.pointer (some ⟨q,2,none⟩)),(40,.slice (some ⟨b,f,sp⟩) 2 c),(41,.pointer (some ⟨b,f,sp⟩)),(42,.agg #[a.k,a.t,u,v,a.h]),(43,.int .u64 (Tr.seen a:Nat)),(7,.int .u64 (Tr.seen a:Nat))]
def seenB (q b f c:Nat) (sp:Option Nat) (a:Tr) (u v:Value):List (Nat × Value):=[(44,.pointer (some ⟨q,2,none⟩)),(45,.slice (some ⟨b,f,sp⟩) 2 c),(46,.pointer (some ⟨b,f+5,none⟩)),(47,.agg #[a.k,a.t,u,v,a.h]),(48,.int .u64 (Tr.seen a:Nat)),(8,.int .u64 (Tr.seen a:Nat))]
def seenL (p q:Nat):Array Bool:=#[decide (0<p),decide (1<p),decide (2<p),decide (3<p),decide (4<p),decide (0<q),decide (1<q),decide (2<q),decide (3<q),decide (4<q),decide (5<p),decide (5<q)]
def seenIA (p:Nat):Nat:=#[0,1,2,3,4,10].getD p 0
def seenIB (p:Nat):Nat:=#[5,6,7,8,9,11].getD p 0
theorem notA {q b f c:Nat} {sp:Option Nat} {a:Tr} {u v:Value} {k:Nat} (h:k≠39∧k≠40∧k≠41∧k≠42∧k≠43∧k≠7):∀s∈seenA q b f c sp a u v,s.1≠k:=by
 intro s hs;simp only[seenA,List.mem_cons,List.not_mem_nil,or_false]at hs
 rcases hs with rfl | rfl | rfl | rfl | rfl | rfl <;> dsimp only <;> omega
theorem notB {q b f c:Nat} {sp:Option Nat} {a:Tr} {u v:Value} {k:Nat} (h:k≠44∧k≠45∧k≠46∧k≠47∧k≠48∧k≠8):∀s∈seenB q b f c sp a u v,s.1≠k:=by
 intro s hs;simp only[seenB,List.mem_cons,List.not_mem_nil,or_false]at hs
 rcases hs with rfl | rfl | rfl | rfl | rfl | rfl <;> dsimp only <;> omega
theorem readA {q b f c:Nat} {sp:Option Nat} {a:Tr} {u v:Value} {Bq:List (Nat × Value)} {base:Array Value} {p k:Nat} {x:Value} (hA:(seenA q b f c sp a u v)[p]?=some (k,x)) (hB:∀s∈Bq,s.1≠k) (hk:k<base.size) :
  ({ tmps:=puts Bq (puts ((seenA q b f c sp a u v).take (p+1)) base),defers:=[] }:Act).eval (.tmp k)=x:=by
 show(puts Bq _).getD k undef=x
 rw[A0C hB,D7,hA];exact A3a _ k x base hk
theorem readB {q b f c:Nat} {sp:Option Nat} {a:Tr} {u v:Value} {X:Array Value} {p k:Nat} {x:Value} (hB:(seenB q b f c sp a u v)[p]?=some (k,x)) (hk:k<X.size) :
  ({ tmps:=puts ((seenB q b f c sp a u v).take (p+1)) X,defers:=[] }:Act).eval (.tmp k)=x:=by
 show(puts _ X).getD k undef=x
 rw[D7,hB];exact A3a _ k x X hk
theorem A3U {l n id:Nat} {Q:Exit→Act→World→Prop} {ops:Array Oper} {x0 x1 x2 x3 x4 x5 x6 x7 x8 x9 x10 x11:Oper}
  (h0:ops[0]?=some x0) (d0:x0.dst=some 39) (p0:x0.op=.fieldAddr 26 (.tmp 6) 2) (g0:x0.guard=none)
  (h1:ops[1]?=some x1) (d1:x1.dst=some 40) (p1:x1.op=.load 23 (.tmp 39)) (g1:x1.guard=none)
  (h2:ops[2]?=some x2) (d2:x2.dst=some 41) (p2:x2.op=.indexAddr 23 (.tmp 40) (.const (.int .i64 0))) (g2:x2.guard=none)
  (h3:ops[3]?=some x3) (d3:x3.dst=some 42) (p3:x3.op=.load 26 (.tmp 41)) (g3:x3.guard=none)
  (h4:ops[4]?=some x4) (d4:x4.dst=some 43) (p4:x4.op=.call { callee:=.value (.func 26),args:=#[.tmp 42],argTypes:=#[26] }) (g4:x4.guard=none)
  (h5:ops[5]?=some x5) (d5:x5.dst=some 44) (p5:x5.op=.fieldAddr 26 (.tmp 6) 2) (g5:x5.guard=none)
  (h6:ops[6]?=some x6) (d6:x6.dst=some 45) (p6:x6.op=.load 23 (.tmp 44)) (g6:x6.guard=none)
  (h7:ops[7]?=some x7) (d7:x7.dst=some 46) (p7:x7.op=.indexAddr 23 (.tmp 45) (.const (.int .i64 1))) (g7:x7.guard=none)
  (h8:ops[8]?=some x8) (d8:x8.dst=some 47) (p8:x8.op=.load 26 (.tmp 46)) (g8:x8.guard=none)
  (h9:ops[9]?=some x9) (d9:x9.dst=some 48) (p9:x9.op=.call { callee:=.value (.func 26),args:=#[.tmp 47],argTypes:=#[26] }) (g9:x9.guard=none)
  (h10:ops[10]?=some x10) (d10:x10.dst=some 7) (p10:x10.op=.assign (.tmp 43)) (g10:x10.guard=none)
  (h11:ops[11]?=some x11) (d11:x11.dst=some 8) (p11:x11.op=.assign (.tmp 48)) (g11:x11.guard=none)
  (hsize:ops.size=2*6) (hready:∀p,p≤6→∀q,q≤6→∀i∈Region.ready .any ops (seenL p q),(p<6∧i=seenIA p∧(seenL p q).setIfInBounds i true=seenL (p+1) q)∨(q<6∧i=seenIB q∧(seenL p q).setIfInBounds i true=seenL p (q+1)))
  (hend:∀p,p≤6→∀q,q≤6→(Region.ready .any ops (seenL p q)=[]↔p=6∧q=6))
  (base:Array Value) (qb:Nat) (hb6:base.getD 6 undef=.pointer (some ⟨qb,0,none⟩)) (hsz:49≤base.size) (W9:World) (ya yb:Tr) (b f c:Nat) (sp:Option Nat) (ua va ub vb:Value)
  (hcell:∀W,Below W9 W9 W→W.cell? ⟨qb,2,none⟩=some (.slice (some ⟨b,f,sp⟩) 2 c)) (hX:∀W,Below W9 W9 W→TrCell W ⟨b,f,sp⟩ ya ua va) (hY:∀W,Below W9 W9 W→TrCell W ⟨b,f+5,none⟩ yb ub vb)
  (hCA:∀W,Below W9 W9 W→Calls Tryz.prog 26 #[.agg #[ya.k,ya.t,ua,va,ya.h]] W fun e w'=>e=.returned (.int .u64 (Tr.seen ya:Nat))∧Below W9 W9 w')
  (hCB:∀W,Below W9 W9 W→Calls Tryz.prog 26 #[.agg #[yb.k,yb.t,ub,vb,yb.h]] W fun e w'=>e=.returned (.int .u64 (Tr.seen yb:Nat))∧Below W9 W9 w')
  (hQ:∀W,Below W9 W9 W→Q .normal { tmps:=puts (seenB qb b f c sp yb ub vb) (puts (seenA qb b f c sp ya ua va) base),defers:=[] } W) :
  (Code.region id ops true).wpIn (Fence.wide.inRound l) n Tryz.prog Q { tmps:=base,defers:=[] } W9:=by
 refine A1g (by kernel_rfl) 6 seenIA seenIB seenL (fun p q a W=>a={ tmps:=puts ((seenB qb b f c sp yb ub vb).take q) (puts ((seenA qb b f c sp ya ua va).take p) base),defers:=[] }∧Below W9 W9 W) hsize (by rw[hsize];rfl) hready hend ⟨rfl,(Below.refl _ _).drew⟩ ?_ ?_ ?_
 ·rintro p q a W hp hq ⟨rfl,hb⟩ K hK
  rcases(show p=0∨p=1∨p=2∨p=3∨p=4∨p=5 by omega)with rfl | rfl | rfl | rfl | rfl | rfl
  ·exact V8 h0 g0 (by rw[p0];intro c h;cases h) (A1y W p0 (by show(puts _ _).getD 6 undef=_;rw[A0C (S7 (notB (by omega))),A0C (S7 (notA (by omega)))];exact hb6)) (hK _ _ ⟨by rw[d0];exact putA (p:=0) rfl (S7 (notB (by omega))),hb⟩)
  ·exact V8 h1 g1 (by rw[p1];intro c h;cases h) (A1w W p1 (readA (p:=0) rfl (S7 (notB (by omega))) (by omega)) (hcell W hb)) (hK _ _ ⟨by rw[d1];exact putA (p:=1) rfl (S7 (notB (by omega))),hb⟩)
  ·exact V8 h2 g2 (by rw[p2];intro c h;cases h) (A70 W p2 (fun _=>rfl) (readA (p:=1) rfl (S7 (notB (by omega))) (by omega))) (hK _ _ ⟨by rw[d2];exact putA (p:=2) rfl (S7 (notB (by omega))),hb⟩)
  ·exact V8 h3 g3 (by rw[p3];intro c h;cases h) (A14 W p3 (readA (p:=2) rfl (S7 (notB (by omega))) (by omega)) (hX W hb)) (hK _ _ ⟨by rw[d3];exact putA (p:=3) rfl (S7 (notB (by omega))),hb⟩)
  ·refine A3k h4 g4 (by rw[p4];intro c h;cases h) (A15 W p4 rfl (readA (p:=3) rfl (S7 (notB (by omega))) (by omega))) ((hCA W hb).mono ?_)
   rintro e w' ⟨rfl,hb'⟩
   exact⟨_,rfl,hK _ _ ⟨by rw[d4];exact putA (p:=4) rfl (S7 (notB (by omega))),hb'⟩⟩
  ·exact V8 h10 g10 (by rw[p10];intro c h;cases h) (A0Z W p10 (readA (p:=4) rfl (S7 (notB (by omega))) (by omega))) (hK _ _ ⟨by rw[d10];exact putA (p:=5) rfl (S7 (notB (by omega))),hb⟩)
 ·rintro p q a W hp hq ⟨rfl,hb⟩ K hK
  rcases(show q=0∨q=1∨q=2∨q=3∨q=4∨q=5 by omega)with rfl | rfl | rfl | rfl | rfl | rfl
  ·exact V8 h5 g5 (by rw[p5];intro c h;cases h) (A1y W p5 (by show(puts _ _).getD 6 undef=_;rw[A0C (S7 (notB (by omega))),A0C (S7 (notA (by omega)))];exact hb6)) (hK _ _ ⟨by rw[d5];exact putB (q:=0) rfl,hb⟩)
  ·exact V8 h6 g6 (by rw[p6];intro c h;cases h) (A1w W p6 (readB (p:=0) rfl (by rw[Y4];omega)) (hcell W hb)) (hK _ _ ⟨by rw[d6];exact putB (q:=1) rfl,hb⟩)
  ·exact V8 h7 g7 (by rw[p7];intro c h;cases h) (A7Z W p7 (fun _=>rfl) (readB (p:=1) rfl (by rw[Y4];omega))) (hK _ _ ⟨by rw[d7];exact putB (q:=2) rfl,hb⟩)
  ·exact V8 h8 g8 (by rw[p8];intro c h;cases h) (A14 W p8 (readB (p:=2) rfl (by rw[Y4];omega)) (hY W hb)) (hK _ _ ⟨by rw[d8];exact putB (q:=3) rfl,hb⟩)
  ·refine A3k h9 g9 (by rw[p9];intro c h;cases h) (A15 W p9 rfl (readB (p:=3) rfl (by rw[Y4];omega))) ((hCB W hb).mono ?_)
   rintro e w' ⟨rfl,hb'⟩
   exact⟨_,rfl,hK _ _ ⟨by rw[d9];exact putB (q:=4) rfl,hb'⟩⟩
  ·exact V8 h11 g11 (by rw[p11];intro c h;cases h) (A0Z W p11 (readB (p:=4) rfl (by rw[Y4];omega))) (hK _ _ ⟨by rw[d11];exact putB (q:=5) rfl,hb⟩)
 ·rintro a W ⟨rfl,hb⟩;exact hQ W hb
end Go.Proofs.YtbddhkgbpjhhaaaGreatDoor
