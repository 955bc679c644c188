/-
  LAID TOGETHER, BY PROGRAM, of: Hsq, Hsh, Hsi, Hsj, TuCame, TuWf.
-/
import Derived.Test.YtbddhkgbpjhhaaaGreatDoorGHsA
import Derived.Test.YtbddhkgbpjhhaaaGreatDoorGBase
import Derived.Test.YtbddhkgbpjhhaaaGreatDoorGPred
import Derived.Test.YtbddhkgbpjhhaaaGreatDoorGNs
import Derived.Test.YtbddhkgbpjhhaaaGreatDoorGMtC
import Derived.Test.YtbddhkgbpjhhaaaGreatDoorGCame
import Derived.Maps.OwnIn
import Derived.Maps.Views
import Derived.Maps.OwnSet
import Derived.Deep.RegionLaw
import Derived.Lib.LaidTab
import Derived.OpenShut
set_option maxHeartbeats 6400000
set_option maxRecDepth 100000
namespace Go.Proofs.YtbddhkgbpjhhaaaGreatDoor
open Go.RowKit Go.Sort
theorem T7 {wr wA:World} {W1:World} {base m:Nat} {u:Value} {ks:List (Tm × Tm)} (hown:wr.ownsRow base 188 10 u m (kyCells ks)) (hb:Below wr wr W1) (hA:Below W1 W1 wA) :
  wA.ownsRow base 188 10 u m (kyCells ks) :=
 Q9 (S:=fun _=>True) (Q9 (S:=fun _=>True) hown (N4 hb) fun _ _=>trivial) (N4 hA) fun _ _=>trivial
theorem A69 (d:Nat) (cv:Value) (ps:List Pd) (l r:Nat) (w:World) (hp:PsAt d w cv ps) (hl:l<18446744073709551616) (hr:r<18446744073709551616) (hn100:ps.length≤1000) :
  Calls Tryz.prog 136 #[cv,.int .u64 (l:Int),.int .u64 (r:Int)] w (OwnKys w (Hs.keys ps l r)):=by
 obtain⟨i0,hi,hz0,hz1,hz2⟩:=info_parts Tryz.infoKey15;obtain⟨P0,p0,rfl,_⟩:=hp.form;obtain⟨n,hn⟩:∃n,n=ps.length:=⟨_,rfl⟩;rw[←hn]at hp hn100 ⊢;have HP:=J1 hp;have HN:=J1 hn;have HLR:=J1 (J0 hl hr)
 have HNIL:Hid (Hs.keys (ps.take 0) l r=[]):=J1 (by rw[F8];rfl)
 clear hp hn hl hr;go_enter Tryz.func136,Tryz.ntmps136;go_wp2_with fail
 go_loopw [7,12] (fun s i wr=>∃(q m:Nat) (u:Value),q≤n∧m≤q∧i=.int .i64 q∧u=s∧wr.ownsRow w.heap.size 188 10 u m (kyCells (Hs.keys (ps.take q) l r))∧Below w w wr) (fun _ i _=>n-(intOf i).toNat)
 case atStart=>exact⟨0,0,_,E3 _,C3 _,rfl,rfl,by rw[HNIL.out];exact World.ownsRow_nil _ _ _ _,Below.refl _ _⟩
 case round =>
  obtain⟨q,m,u,hq,hmq,rfl,rfl,hown,hb⟩:=hrel
  by_cases hlt:q<n
  ·obtain⟨p,gp⟩:∃p,ps[q]?=some p:=⟨ps[q]'(by have:=HN.out;omega),A8 _⟩
   have hu:=HP.out;rw[HN.out]at hu;obtain⟨e,b',o,s',A2,he,rfl,hblt,hx⟩:=hu.at_ gp;obtain⟨z0,z1,z2,z3,z4,z5,z6,z7,z8,z9,z10,z11,z12,z13⟩:=(hx wr hb).1;have hA2:=((hx wr hb).2).form;obtain⟨A2a,A2c,rfl,_⟩:=hA2;have HKT:=J1 (Hs.keys_take (l:=l) (r:=r) gp)
   have i1:(0:Int)≤(q:Int):=by omega
   have i2:(q:Int)<(n:Int):=by omega
   obtain⟨W1,hW1⟩:∃W1,W1=wr.alloc (Obj.cells #[p.f.k,p.f.u,p.f.o,p.f.a.k,p.f.a.t,p.f.a.c,p.f.a.z,p.f.a.n,p.f.b.k,p.f.b.t,p.f.b.c,p.f.b.z,p.f.b.n,.slice A2a p.ps.length A2c] 57):=⟨_,rfl⟩;obtain⟨lb,hb1⟩:=L5 (cs:=[p.f.k,p.f.u,p.f.o,p.f.a.k,p.f.a.t,p.f.a.c,p.f.a.z,p.f.a.n,p.f.b.k,p.f.b.t,p.f.b.c,p.f.b.z,p.f.b.n,.slice A2a p.ps.length A2c]) hW1;have HB1:=J1 hb1;have HBW:=J1 hb;have HOWN:=J1 hown;have HW1:=J1 hW1;have HLT:=J1 hlt;have hS:Below W1 W1 W1:=Below.refl _ _
   by_cases hko:p.f.k=2∧p.f.o=1
   ·obtain⟨hk2,ho1⟩:=hko
    have e1:(p.f.k != 2)=false:=by simp[hk2]
    have e2:(p.f.o != 1)=false:=by simp[ho1]
    have HKO:=J1 (J0 hk2 ho1);have cA1:=T3 (W0:=W1) fun W _=>Z1 p.f.a l W HLR.out.1;have cA2:=T3 (W0:=W1) fun W _=>Z1 p.f.b r W HLR.out.2;have cA3:=T3 (W0:=W1) fun W _=>Z1 p.f.b l W HLR.out.1;have cA4:=T3 (W0:=W1) fun W _=>Z1 p.f.a r W HLR.out.2;obtain⟨x1,h1⟩:∃x,x=Hs.inn l p.f.a:=⟨_,rfl⟩;obtain⟨x2,h2⟩:∃x,x=Hs.inn r p.f.b:=⟨_,rfl⟩;obtain⟨x3,h3⟩:∃x,x=Hs.inn l p.f.b:=⟨_,rfl⟩;obtain⟨x4,h4⟩:∃x,x=Hs.inn r p.f.a:=⟨_,rfl⟩;rw[←h1]at cA1;rw[←h2]at cA2;rw[←h3]at cA3;rw[←h4]at cA4;have H1:=J1 h1;have H2:=J1 h2;have H3:=J1 h3;have H4:=J1 h4;clear h1 h2 h3 h4;have k0:=M2 (lb.c 3 rfl);have k1:=M2 (lb.c 4 rfl);have k2:=M2 (lb.c 5 rfl);have k3:=M2 (lb.c 6 rfl);have k4:=M2 (lb.c 7 rfl);have k5:=M2 (lb.c 8 rfl);have k6:=M2 (lb.c 9 rfl);have k7:=M2 (lb.c 10 rfl);have k8:=M2 (lb.c 11 rfl);have k9:=M2 (lb.c 12 rfl);clear gp hu hx hblt lb hb1 hb hown hW1 hk2 ho1 hlt
    go_upto_region 6 with(fail)
    rw[←HW1.out];clear z0 z1 z2 z3 z4 z5 z6 z7 z8 z9 z10 z11 z12 z13 e1 e2
    have hway:(x1=true∧x2=true)∨(x1=true∧x2=false∧x3=true∧x4=true)∨(x1=true∧x2=false∧x3=true∧x4=false)∨(x1=true∧x2=false∧x3=false)∨(x1=false∧x3=true∧x4=true)∨(x1=false∧x3=true∧x4=false)∨(x1=false∧x3=false):=by
     clear cA1 cA2 cA3 cA4 H1 H2 H3 H4
     cases x1 <;> cases x2 <;> cases x3 <;> cases x4 <;> decide
    rcases hway with⟨rfl,rfl⟩ | ⟨rfl,rfl,rfl,rfl⟩ | ⟨rfl,rfl,rfl,rfl⟩ | ⟨rfl,rfl,rfl⟩ | ⟨rfl,rfl,rfl⟩ | ⟨rfl,rfl,rfl⟩ | ⟨rfl,rfl⟩
    ·have c:=cA1 _ hS;go_wp2_with fail;clear hS;refine c.mono ?_;rintro e wA1 ⟨rfl,hS⟩;clear c;have c:=cA2 _ hS;go_wp2_with fail;clear hS;refine c.mono ?_;rintro e wA2 ⟨rfl,hS⟩;clear c;have HO2:=J1 ((T7 HOWN.out HB1.out hS).alloc (Obj.cells [.int .i64 p.f.a.k,.int .i64 p.f.a.t,.int .i64 p.f.a.c,.bool p.f.a.z,.int .i64 p.f.a.n,.int .i64 p.f.b.k,.int .i64 p.f.b.t,.int .i64 p.f.b.c,.bool p.f.b.z,.int .i64 p.f.b.n].toArray 188))
     have HB5:=J1 ((HBW.out.trans (M9 (J5 HB1.out hS) HBW.out.size)).alloc (by have:=HBW.out.size;have:=HB1.out.size;have:=hS.size;omega) (Obj.cells [.int .i64 p.f.a.k,.int .i64 p.f.a.t,.int .i64 p.f.a.c,.bool p.f.a.z,.int .i64 p.f.a.n,.int .i64 p.f.b.k,.int .i64 p.f.b.t,.int .i64 p.f.b.c,.bool p.f.b.z,.int .i64 p.f.b.n].toArray 188))
     have hcm:=J1 (CameN.new wA2 188 10 1 [p.f.a.k,p.f.a.t,p.f.a.c,p.f.a.z,p.f.a.n,p.f.b.k,p.f.b.t,p.f.b.c,p.f.b.z,p.f.b.n] wA2.heap.size rfl rfl)
     have HKT2:=J1 (show Hs.keys (ps.take (q+1)) l r=Hs.keys (ps.take q) l r++[(p.f.a,p.f.b)] by rw[HKT.out];unfold Hs.key1;rw[if_pos HKO.out,←H1.out,←H2.out];rfl)
     go_wp2_with (first
      | (at_builtin;refine M5 _ rfl _ _ 170 rfl w.heap.size 188 i0 (.agg #[z9,z9,z9,false,z9,z9,z9,z9,false,z9]) 10 80 Tryz.underlying170 hi hz0 hz1 hz2 rfl (by decide) _ m _ rfl HO2.out _ 1 [p.f.a.k,p.f.a.t,p.f.a.c,p.f.a.z,p.f.a.n,p.f.b.k,p.f.b.t,p.f.b.c,p.f.b.z,p.f.b.n] rfl hcm.out (A4a (p.f.a,p.f.b)) ?c3 ?c4 ?c5 ?_))
     case c3=>unfold maxLen;omega
     case c4=>omega
     case c5=>simpa using HB5.out.size
     intro v1 w5 hown1 hgrow;have hb5:Below w w w5:=HB5.out.grown hgrow HB5.out.size (fun k hk=>(HOWN.out.lt k hk).1)
     have hown5:w5.ownsRow w.heap.size 188 10 v1 (m+1) (kyCells (Hs.keys (ps.take (q+1)) l r)):=by rw[HKT2.out,A0e];exact hown1
     have HF:=J1 (J0 hown5 hb5);clear hown1 hgrow hown5 hb5 cA1 cA2 cA3 cA4 k0 k1 k2 k3 k4 k5 k6 k7 k8 k9 hS;go_wp2_with fail
     go_roundw
     case rel=>exact⟨q+1,m+1,v1,by omega,by omega,by go_num,rfl,HF.out.1,HF.out.2⟩
     case measure=>simp[intOf];omega
    ·have c:=cA1 _ hS;go_wp2_with fail;clear hS;refine c.mono ?_;rintro e wA1 ⟨rfl,hS⟩;clear c;have c:=cA2 _ hS;go_wp2_with fail;clear hS;refine c.mono ?_;rintro e wA2 ⟨rfl,hS⟩;clear c;have c:=cA3 _ hS;go_wp2_with fail;clear hS;refine c.mono ?_;rintro e wA3 ⟨rfl,hS⟩;clear c;have c:=cA4 _ hS;go_wp2_with fail;clear hS;refine c.mono ?_;rintro e wA4 ⟨rfl,hS⟩;clear c;have HO2:=J1 ((T7 HOWN.out HB1.out hS).alloc (Obj.cells [.int .i64 p.f.b.k,.int .i64 p.f.b.t,.int .i64 p.f.b.c,.bool p.f.b.z,.int .i64 p.f.b.n,.int .i64 p.f.a.k,.int .i64 p.f.a.t,.int .i64 p.f.a.c,.bool p.f.a.z,.int .i64 p.f.a.n].toArray 188))
     have HB5:=J1 ((HBW.out.trans (M9 (J5 HB1.out hS) HBW.out.size)).alloc (by have:=HBW.out.size;have:=HB1.out.size;have:=hS.size;omega) (Obj.cells [.int .i64 p.f.b.k,.int .i64 p.f.b.t,.int .i64 p.f.b.c,.bool p.f.b.z,.int .i64 p.f.b.n,.int .i64 p.f.a.k,.int .i64 p.f.a.t,.int .i64 p.f.a.c,.bool p.f.a.z,.int .i64 p.f.a.n].toArray 188))
     have hcm:=J1 (CameN.new wA4 188 10 1 [p.f.b.k,p.f.b.t,p.f.b.c,p.f.b.z,p.f.b.n,p.f.a.k,p.f.a.t,p.f.a.c,p.f.a.z,p.f.a.n] wA4.heap.size rfl rfl)
     have HKT2:=J1 (show Hs.keys (ps.take (q+1)) l r=Hs.keys (ps.take q) l r++[(p.f.b,p.f.a)] by rw[HKT.out];unfold Hs.key1;rw[if_pos HKO.out,←H1.out,←H3.out,←H4.out,←H2.out];rfl)
     go_wp2_with (first
      | (at_builtin;refine M5 _ rfl _ _ 170 rfl w.heap.size 188 i0 (.agg #[z9,z9,z9,false,z9,z9,z9,z9,false,z9]) 10 80 Tryz.underlying170 hi hz0 hz1 hz2 rfl (by decide) _ m _ rfl HO2.out _ 1 [p.f.b.k,p.f.b.t,p.f.b.c,p.f.b.z,p.f.b.n,p.f.a.k,p.f.a.t,p.f.a.c,p.f.a.z,p.f.a.n] rfl hcm.out (A4a (p.f.b,p.f.a)) ?c3 ?c4 ?c5 ?_))
     case c3=>unfold maxLen;omega
     case c4=>omega
     case c5=>simpa using HB5.out.size
     intro v1 w5 hown1 hgrow;have hb5:Below w w w5:=HB5.out.grown hgrow HB5.out.size (fun k hk=>(HOWN.out.lt k hk).1)
     have hown5:w5.ownsRow w.heap.size 188 10 v1 (m+1) (kyCells (Hs.keys (ps.take (q+1)) l r)):=by rw[HKT2.out,A0e];exact hown1
     have HF:=J1 (J0 hown5 hb5);clear hown1 hgrow hown5 hb5 cA1 cA2 cA3 cA4 k0 k1 k2 k3 k4 k5 k6 k7 k8 k9 hS;go_wp2_with fail
     go_roundw
     case rel=>exact⟨q+1,m+1,v1,by omega,by omega,by go_num,rfl,HF.out.1,HF.out.2⟩
     case measure=>simp[intOf];omega
    ·have c:=cA1 _ hS;go_wp2_with fail;clear hS;refine c.mono ?_;rintro e wA1 ⟨rfl,hS⟩;clear c;have c:=cA2 _ hS;go_wp2_with fail;clear hS;refine c.mono ?_;rintro e wA2 ⟨rfl,hS⟩;clear c;have c:=cA3 _ hS;go_wp2_with fail;clear hS;refine c.mono ?_;rintro e wA3 ⟨rfl,hS⟩;clear c;have c:=cA4 _ hS;go_wp2_with fail;clear hS;refine c.mono ?_;rintro e wA4 ⟨rfl,hS⟩;clear c
     have HKT2:=J1 (show Hs.keys (ps.take (q+1)) l r=Hs.keys (ps.take q) l r by rw[HKT.out];unfold Hs.key1;rw[if_pos HKO.out,←H1.out,←H3.out,←H2.out,←H4.out];simp)
     have HF:=J1 (J0 (show wA4.ownsRow w.heap.size 188 10 u m (kyCells (Hs.keys (ps.take (q+1)) l r)) by rw[HKT2.out];exact T7 HOWN.out HB1.out hS) (HBW.out.trans (M9 (J5 HB1.out hS) HBW.out.size)))
     clear cA1 cA2 cA3 cA4 k0 k1 k2 k3 k4 k5 k6 k7 k8 k9 hS;go_wp2_with fail
     go_roundw
     case rel=>exact⟨q+1,m,u,by omega,by omega,by go_num,rfl,HF.out.1,HF.out.2⟩
     case measure=>simp[intOf];omega
    ·have c:=cA1 _ hS;go_wp2_with fail;clear hS;refine c.mono ?_;rintro e wA1 ⟨rfl,hS⟩;clear c;have c:=cA2 _ hS;go_wp2_with fail;clear hS;refine c.mono ?_;rintro e wA2 ⟨rfl,hS⟩;clear c;have c:=cA3 _ hS;go_wp2_with fail;clear hS;refine c.mono ?_;rintro e wA3 ⟨rfl,hS⟩;clear c
     have HKT2:=J1 (show Hs.keys (ps.take (q+1)) l r=Hs.keys (ps.take q) l r by rw[HKT.out];unfold Hs.key1;rw[if_pos HKO.out,←H1.out,←H3.out,←H2.out];simp)
     have HF:=J1 (J0 (show wA3.ownsRow w.heap.size 188 10 u m (kyCells (Hs.keys (ps.take (q+1)) l r)) by rw[HKT2.out];exact T7 HOWN.out HB1.out hS) (HBW.out.trans (M9 (J5 HB1.out hS) HBW.out.size)))
     clear cA1 cA2 cA3 cA4 k0 k1 k2 k3 k4 k5 k6 k7 k8 k9 hS;go_wp2_with fail
     go_roundw
     case rel=>exact⟨q+1,m,u,by omega,by omega,by go_num,rfl,HF.out.1,HF.out.2⟩
     case measure=>simp[intOf];omega
    ·have c:=cA1 _ hS;go_wp2_with fail;clear hS;refine c.mono ?_;rintro e wA1 ⟨rfl,hS⟩;clear c;have c:=cA3 _ hS;go_wp2_with fail;clear hS;refine c.mono ?_;rintro e wA3 ⟨rfl,hS⟩;clear c;have c:=cA4 _ hS;go_wp2_with fail;clear hS;refine c.mono ?_;rintro e wA4 ⟨rfl,hS⟩;clear c;have HO2:=J1 ((T7 HOWN.out HB1.out hS).alloc (Obj.cells [.int .i64 p.f.b.k,.int .i64 p.f.b.t,.int .i64 p.f.b.c,.bool p.f.b.z,.int .i64 p.f.b.n,.int .i64 p.f.a.k,.int .i64 p.f.a.t,.int .i64 p.f.a.c,.bool p.f.a.z,.int .i64 p.f.a.n].toArray 188))
     have HB5:=J1 ((HBW.out.trans (M9 (J5 HB1.out hS) HBW.out.size)).alloc (by have:=HBW.out.size;have:=HB1.out.size;have:=hS.size;omega) (Obj.cells [.int .i64 p.f.b.k,.int .i64 p.f.b.t,.int .i64 p.f.b.c,.bool p.f.b.z,.int .i64 p.f.b.n,.int .i64 p.f.a.k,.int .i64 p.f.a.t,.int .i64 p.f.a.c,.bool p.f.a.z,.int .i64 p.f.a.n].toArray 188))
     have hcm:=J1 (CameN.new wA4 188 10 1 [p.f.b.k,p.f.b.t,p.f.b.c,p.f.b.z,p.f.b.n,p.f.a.k,p.f.a.t,p.f.a.c,p.f.a.z,p.f.a.n] wA4.heap.size rfl rfl)
     have HKT2:=J1 (show Hs.keys (ps.take (q+1)) l r=Hs.keys (ps.take q) l r++[(p.f.b,p.f.a)] by rw[HKT.out];unfold Hs.key1;rw[if_pos HKO.out,←H1.out,←H3.out,←H4.out];rfl)
     go_wp2_with (first
      | (at_builtin;refine M5 _ rfl _ _ 170 rfl w.heap.size 188 i0 (.agg #[z9,z9,z9,false,z9,z9,z9,z9,false,z9]) 10 80 Tryz.underlying170 hi hz0 hz1 hz2 rfl (by decide) _ m _ rfl HO2.out _ 1 [p.f.b.k,p.f.b.t,p.f.b.c,p.f.b.z,p.f.b.n,p.f.a.k,p.f.a.t,p.f.a.c,p.f.a.z,p.f.a.n] rfl hcm.out (A4a (p.f.b,p.f.a)) ?c3 ?c4 ?c5 ?_))
     case c3=>unfold maxLen;omega
     case c4=>omega
     case c5=>simpa using HB5.out.size
     intro v1 w5 hown1 hgrow;have hb5:Below w w w5:=HB5.out.grown hgrow HB5.out.size (fun k hk=>(HOWN.out.lt k hk).1)
     have hown5:w5.ownsRow w.heap.size 188 10 v1 (m+1) (kyCells (Hs.keys (ps.take (q+1)) l r)):=by rw[HKT2.out,A0e];exact hown1
     have HF:=J1 (J0 hown5 hb5);clear hown1 hgrow hown5 hb5 cA1 cA2 cA3 cA4 k0 k1 k2 k3 k4 k5 k6 k7 k8 k9 hS;go_wp2_with fail
     go_roundw
     case rel=>exact⟨q+1,m+1,v1,by omega,by omega,by go_num,rfl,HF.out.1,HF.out.2⟩
     case measure=>simp[intOf];omega
    ·have c:=cA1 _ hS;go_wp2_with fail;clear hS;refine c.mono ?_;rintro e wA1 ⟨rfl,hS⟩;clear c;have c:=cA3 _ hS;go_wp2_with fail;clear hS;refine c.mono ?_;rintro e wA3 ⟨rfl,hS⟩;clear c;have c:=cA4 _ hS;go_wp2_with fail;clear hS;refine c.mono ?_;rintro e wA4 ⟨rfl,hS⟩;clear c
     have HKT2:=J1 (show Hs.keys (ps.take (q+1)) l r=Hs.keys (ps.take q) l r by rw[HKT.out];unfold Hs.key1;rw[if_pos HKO.out,←H1.out,←H3.out,←H4.out];simp)
     have HF:=J1 (J0 (show wA4.ownsRow w.heap.size 188 10 u m (kyCells (Hs.keys (ps.take (q+1)) l r)) by rw[HKT2.out];exact T7 HOWN.out HB1.out hS) (HBW.out.trans (M9 (J5 HB1.out hS) HBW.out.size)))
     clear cA1 cA2 cA3 cA4 k0 k1 k2 k3 k4 k5 k6 k7 k8 k9 hS;go_wp2_with fail
     go_roundw
     case rel=>exact⟨q+1,m,u,by omega,by omega,by go_num,rfl,HF.out.1,HF.out.2⟩
     case measure=>simp[intOf];omega
    ·have c:=cA1 _ hS;go_wp2_with fail;clear hS;refine c.mono ?_;rintro e wA1 ⟨rfl,hS⟩;clear c;have c:=cA3 _ hS;go_wp2_with fail;clear hS;refine c.mono ?_;rintro e wA3 ⟨rfl,hS⟩;clear c
     have HKT2:=J1 (show Hs.keys (ps.take (q+1)) l r=Hs.keys (ps.take q) l r by rw[HKT.out];unfold Hs.key1;rw[if_pos HKO.out,←H1.out,←H3.out];simp)
     have HF:=J1 (J0 (show wA3.ownsRow w.heap.size 188 10 u m (kyCells (Hs.keys (ps.take (q+1)) l r)) by rw[HKT2.out];exact T7 HOWN.out HB1.out hS) (HBW.out.trans (M9 (J5 HB1.out hS) HBW.out.size)))
     clear cA1 cA2 cA3 cA4 k0 k1 k2 k3 k4 k5 k6 k7 k8 k9 hS;go_wp2_with fail
     go_roundw
     case rel=>exact⟨q+1,m,u,by omega,by omega,by go_num,rfl,HF.out.1,HF.out.2⟩
     case measure=>simp[intOf];omega
   ·have hcase:(p.f.k != 2)=true∨((p.f.k != 2)=false∧(p.f.o != 1)=true):=by
     by_cases h:p.f.k=2
     ·exact .inr ⟨by simp[h],by simp;exact fun h2=>hko ⟨h,h2⟩⟩
     ·exact .inl (by simp[h])
    have HKO:=J1 hko;clear gp hu hx hblt lb hb hown hko hlt
    rcases hcase with e1 | ⟨e1,e2⟩
    all_goals
     have HKT2:=J1 (show Hs.keys (ps.take (q+1)) l r=Hs.keys (ps.take q) l r by rw[HKT.out];unfold Hs.key1;rw[if_neg HKO.out];simp)
     have HF:=J1 (J0 (show W1.ownsRow w.heap.size 188 10 u m (kyCells (Hs.keys (ps.take (q+1)) l r)) by rw[HKT2.out];exact T7 HOWN.out HB1.out hS) (HBW.out.trans (M9 (J5 HB1.out hS) HBW.out.size)))
     clear hS;rw[hW1]at HF;go_wp2_with fail
     go_roundw
     case rel=>exact⟨q+1,m,u,by omega,by omega,by go_num,rfl,HF.out.1,HF.out.2⟩
     case measure=>simp[intOf];omega
  ·have hres:=J1 (show OwnKys w (Hs.keys ps l r) (.returned u) wr from⟨u,rfl,by
    rw[C7 (by have:=HN.out;omega)]at hown
    have h1:=hown.1;rw[A1T]at h1
    obtain rfl:(Hs.keys ps l r).length=m:=by omega
    exact hown,hb⟩)
   have i2:¬((q:Int)<(n:Int)):=by omega
   clear hown hb hlt;go_wp2_with fail;go_ret;exact hres.out
open Go.RowKit Go.Sort Go.Maps
def heldElem (v:Value):Option (DataW Value × List MemPlace):=some (.held v,[])
def upd {α:Type} (g:List UInt8→α) (k:List UInt8) (v:α):List UInt8→α:=fun s=>if s=k then v else g s
theorem A0j {α:Type} (g:List UInt8→α) (k:List UInt8) (v:α):upd g k v k=v:=if_pos rfl
theorem X6 {α:Type} (g:List UInt8→α) {k s:List UInt8} (v:α) (h:s≠k):upd g k v s=g s:=if_neg h
structure Shelf (R:Nat→Prop) (base:Nat) (w:World) (b n:Nat) (g:List UInt8→Value) (U:List UInt8→List Value) (f:List UInt8→List (List (List Vl))):Prop where
 map:∃D,w.ownsMap Tryz.prog 9 heldElem b n D∧∀k,D.atKey (.string k) (.held (.slice none 0 0))=.held (g k)
 row:∀k,TuRow R base w (g k) (f k).length (U k) (f k)
 apart:∀k k',k≠k'→∀j,(g k).ownBlock=some j→(g k').ownBlock≠some j
 lt:b<base
 rlt:∀j,R j→j<base
 rb:¬R b
theorem A9Z:Keyed Tryz.prog 9:=string_keyed Tryz.underlying9
theorem A9F (w:World):(zeroValue 29).run Tryz.prog w=.ok (.slice none 0 0) w:=by kernel_rfl
theorem A90 {k:List UInt8} (h:k.length≤maxLen):keyOf Tryz.prog 9 (.string ⟨k.toArray⟩)=some (.string k):=by
 have hs:(⟨k.toArray⟩:ByteArray).size≤maxLen:=h
 simp[keyOf,Tryz.underlying9,mapKey,hs]
variable {R S:Nat→Prop} {base b n:Nat} {w w':World} {g:List UInt8→Value} {U:List UInt8→List Value} {f:List UInt8→List (List (List Vl))}
theorem A3g {H:Type} {w w':World} {P:Program} {k:TypeId} {R:Value→Option (DataW H × List MemPlace)} {b n:Nat} {D:DataW H} (h:w.ownsMap P k R b n D) (hb:w'.heap[b]?=w.heap[b]?):w'.ownsMap P k R b n D:=by
 obtain⟨es,clock,h1,h2⟩:=h;exact⟨es,clock,hb.trans h1,h2⟩
theorem Shelf.blt (h:Shelf R base w b n g U f):b<w.heap.size:=by obtain⟨D,h1,_⟩:=h.map;exact h1.lt
theorem Shelf.keep (h:Shelf R base w b n g U f) (hk:Keeps S w w') (hb:S b) (hr:∀j,j<w.heap.size→base≤j→S j) (hR:∀j,j<w.heap.size→R j→S j):Shelf R base w' b n g U f:=by
 obtain⟨D,h1,h2⟩:=h.map;exact⟨⟨D,A3g h1 (hk.same _ h1.lt hb),h2⟩,fun k=>(h.row k).keep hk (fun j hj=>hr j ((h.row k).own.lt j hj).2 ((h.row k).own.lt j hj).1) (fun j hj _ hR'=>hR j hj hR'),h.apart,h.lt,h.rlt,h.rb⟩
theorem Shelf.below (h:Shelf R base w b n g U f) (hb:Below w w w'):Shelf R base w' b n g U f :=
 h.keep (S:=fun _=>True) (N4 hb) trivial (fun _ _ _=>trivial) (fun _ _ _=>trivial)
theorem Shelf.mono (h:Shelf R base w b n g U f) {n':Nat} (hn:n≤n'):Shelf R base w b n' g U f:=by
 obtain⟨D,h1,h2⟩:=h.map;exact⟨⟨D,h1.mono hn,h2⟩,h.row,h.apart,h.lt,h.rlt,h.rb⟩
theorem Shelf.made (w:World) (hR:∀j,R j→j<w.heap.size):Shelf R (w.heap.size+1) (w.alloc (.map #[] 0)) w.heap.size 0 (fun _=>.slice none 0 0) (fun _=>[]) (fun _=>[]) :=
 ⟨⟨_,World.ownsMap_made w _ _ _,fun k=>by simp[DataW.atKey]⟩,fun k=>⟨World.ownsRow_nil _ _ _ _,rfl,fun i t h=>by simp at h⟩,(fun _ _ _ j hj=>by cases hj),Nat.lt_succ_self _,fun j hj=>Nat.lt_succ_of_lt (hR j hj),fun h=>Nat.lt_irrefl _ (hR _ h)⟩
theorem Shelf.look (h:Shelf R base w b n g U f) {k:List UInt8} (hk:k.length≤maxLen) :
  (Instr.lookup 175 (.map (some b)) (.string ⟨k.toArray⟩) false).run Tryz.prog w=.ok (g k) w:=by
 obtain⟨D,h1,h2⟩:=h.map
 obtain⟨v,ps,hrun,hv⟩:=h1.lookup (t:=175) (e:=29) A9Z Tryz.underlying175 (A9F w) (show heldElem (.slice none 0 0)=some (.held (.slice none 0 0),[]) from rfl) (A90 hk)
 rw[h2 k]at hv
 have hv:v=g k:=by
  have h3:(DataW.held v:DataW Value)=DataW.held (g k):=congrArg Prod.fst (F0 hv);exact DataW.held.inj h3
 rw[hrun,hv]
theorem Shelf.store (h:Shelf R base w b n g U f) {k0:List UInt8} (hk0:k0.length≤maxLen) {w2:World} {v':Value} {us':List Value} {ts':List (List (List Vl))} (hg:w.grownBy w2 (g k0).ownBlock) (hrow:TuRow R base w2 v' ts'.length us' ts')
  (hloc:v'.ownBlock=(g k0).ownBlock∨∃j,v'.ownBlock=some j∧w.heap.size≤j) (hn:n<maxLen) :
  ∃w3,(Instr.mapUpdate 175 (.map (some b)) (.string ⟨k0.toArray⟩) v').run Tryz.prog w2=.ok () w3∧Shelf R base w3 b (n+1) (upd g k0 v') (upd U k0 us') (upd f k0 ts')∧w2.grownBy w3 (some b):=by
 obtain⟨D,h1,h2⟩:=h.map
 have hgb:some b≠(g k0).ownBlock:=fun e=>by have:=((h.row k0).own.lt b e.symm).1;have:=h.lt;omega
 have h3:=h1.kept hg hgb
 obtain⟨w3,hrun,h4,h5⟩:=h3.update (t:=175) (e:=29) A9Z Tryz.underlying175 hn (A90 hk0) (show heldElem v'=some (.held v',[]) from rfl)
 refine⟨w3,hrun,⟨⟨_,h4,fun k=>?_⟩,fun k=>?_,fun k k' hne j hj=>?_,h.lt,h.rlt,h.rb⟩,h5⟩
 ·by_cases e:k=k0
  ·subst e
   rw[A0j,atKey_put_same h3.isMap (show WideAt.IsKeyLit (.string k) from trivial)]
  ·rw[X6 _ _ e,atKey_put_other (fun e2=>e (by cases e2;rfl))]
   exact h2 k
 ·by_cases e:k=k0
  ·subst e;rw[A0j,A0j,A0j]
   exact hrow.keep (S9 h5) (fun j hj e=>by have:=(hrow.own.lt j hj).1;have:=h.lt;cases e;omega) (fun j _ _ hR e=>by cases e;exact h.rb hR)
  ·rw[X6 _ _ e,X6 _ _ e,X6 _ _ e]
   have h6:=(h.row k).keep (S9 hg) (fun j hj e3=>h.apart k0 k (fun e2=>e e2.symm) j e3 hj) (fun j _ _ hR e2=>by have:=((h.row k0).own.lt j e2).1;have:=h.rlt j hR;omega)
   exact h6.keep (S9 h5) (fun j hj e=>by have:=(h6.own.lt j hj).1;have:=h.lt;cases e;omega) (fun j _ _ hR e=>by cases e;exact h.rb hR)
 ·by_cases e:k=k0
  ·subst e;rw[A0j]at hj;rw[X6 _ _ (fun e=>hne e.symm)];intro e2
   rcases hloc with hl | ⟨j2,hl,hge⟩
   ·exact h.apart k k' hne j (hl ▸ hj) e2
   ·rw[hl]at hj;cases hj;have:=((h.row k').own.lt _ e2).2;omega
  ·rw[X6 _ _ e]at hj
   by_cases e2:k'=k0
   ·subst e2;rw[A0j];intro e3
    rcases hloc with hl | ⟨j2,hl,hge⟩
    ·exact h.apart k k' hne j hj (hl ▸ e3)
    ·rw[hl]at e3;cases e3;have:=((h.row k).own.lt _ hj).2;omega
   ·rw[X6 _ _ e2];exact h.apart k k' hne j hj
end Go.Proofs.YtbddhkgbpjhhaaaGreatDoor
namespace Go.Proofs.YtbddhkgbpjhhaaaGreatDoor
open Go.RowKit Go.Sort Go.Maps
theorem A1a {P:Program} {ops:Array Oper} {o:Oper} {a:Act} {w:World} {K:Act→World→Prop} {Q:Exit→Act→World→Prop} {E:Prop} (hgd:o.guard=none) (s x:Operand) (t:TypeId)
  (ho:o.op=.call { callee:=.builtin .append,args:=#[s,x],argTypes:=#[t,t] })
  (base:Nat) (e:TypeId) (i:TypeInfo) (z:Value) (size bytes:Nat) (ht:P.underlying t=some (.slice e)) (hi:P.info? e=some i) (hz:i.zero=some z)
  (hsize:i.size=size) (hby:i.bytes=bytes) (hzs:z.cells.size=size) (hs0:0<size)
  (v:Value) (n:Nat) (xs:List Value) (hs:a.eval s=v) (hown:w.ownsRow base e size v n xs)
  (ad:Addr) (m c:Nat) (news:List Value) (hx:a.eval x=.slice (some ad) m c) (hl:news.length=m*size) (hc:∀j u,news[j]?=some u→w.cell? (ad.add j)=some u) (h1:∀u∈news,u.oneCell'=true)
  (h63:n+m≤maxLen) (hbytes:(n+m)*bytes≤140737488355328) (hbase:base≤w.heap.size)
  (h:∀v' w',Hid (w'.ownsRow base e size v' (n+m) (xs++news)∧w.grownBy w' v.ownBlock∧(v'.ownBlock=v.ownBlock∨∃g,v'.ownBlock=some g∧w.heap.size≤g))→K (a.put o.dst v') w') :
  if Region.wanted o (yielded ops a.tmps)=true then Oper.wp P o a w K Q else E:=by
 have hw:Region.wanted o (yielded ops a.tmps)=true:=by simp[Region.wanted,hgd]
 rw[if_pos hw];obtain⟨v',w',hrun,r1,r2,r3⟩:=V7 (P:=P) w base t o.type e i z size bytes ht hi hz hsize hby hzs hs0 v n xs hown ad m c news hl hc h1 h63 hbytes hbase;unfold Oper.wp
 simp[execOp,ho,resolve,invoke,builtin,hs,hx,hrun,Result.andThen]
 exact h v' w' (J1 ⟨r1,r2,r3⟩)
def OwnShelf (w:World) (xs:List Tm) (L:List (List (List Vl))) (E:Ending) (w':World):Prop :=
 ∃b base n g U,E=.returned (.map (some b))∧Shelf (fun j=>j<w.heap.size) base w' b n g U (fun s=>Hs.alike xs (some s) L)∧w.heap.size≤b∧Below w w w'
theorem A3K {xs:List Tm} {R:List (List (List Vl))} {q:Nat} {t:List (List Vl)} (h:R[q]?=some t) (hk:Hs.key xs t=none):(fun s=>Hs.alike xs (some s) (R.take (q+1)))=fun s=>Hs.alike xs (some s) (R.take q):=by
 funext s
 rw[Hs.alike_take h,hk]
 simp
theorem A3J {xs:List Tm} {R:List (List (List Vl))} {q:Nat} {t:List (List Vl)} {k:List UInt8} (h:R[q]?=some t) (hk:Hs.key xs t=some k):(fun s=>Hs.alike xs (some s) (R.take (q+1)))=upd (fun s=>Hs.alike xs (some s) (R.take q)) k (Hs.alike xs (some k) (R.take q)++[t]):=by
 funext s
 rw[Hs.alike_take h,hk];unfold upd
 by_cases e:s=k
 ·subst e;simp
 ·rw[if_neg e,if_neg (fun e2=>e (F0 e2).symm),F3]
theorem A4k (tv lv:Value) (xs:List Tm) (L:List (List (List Vl))) (w:World) (ht:TmsAt w tv xs) (hl:TusOn Al w lv L) (hP:Pows w) (hi:∀t∈L,∀x∈xs,Hs.I64 (Te.val x t).2) (hn:xs.length≤1000) (hL:L.length≤20000) :
  Calls Tryz.prog 138 #[tv,lv] w (OwnShelf w xs L):=by
 obtain⟨i0,hi0,hz0,hz1,hz2⟩:=info_parts Tryz.infoTup13;have hl':TusOn (fun k=>k<w.heap.size) w lv L:=hl.mono fun k h1 _=>h1;obtain⟨T0,c0,rfl,_⟩:=ht.form;obtain⟨L0,c1,rfl,_⟩:=hl'.form
 have CK:=J1 (show ∀(u:Value) (t:List (List Vl)) (W:World),Below w w W→RwsOn (fun k=>k<w.heap.size) W u t→t∈L→_ from fun u t W hb hu hm =>
  A4U (.slice T0 xs.length c0) u xs t W (ht.below hb (C3 _)) hu.rws (hP.below hb (C3 _)) (hi t hm) hn)
 obtain⟨n,hnn⟩:∃n,n=L.length:=⟨_,rfl⟩;obtain⟨xl,hxl⟩:∃n,n=xs.length:=⟨_,rfl⟩;rw[←hnn]at hl' hL ⊢;rw[←hxl]at CK ⊢;have HL:=J1 hl';have HN:=J1 hnn;have hmm:=@run_makeMap Tryz.prog;have HI:=J1 hi
 have HXN:=J1 (show xs.length≤1000 from hn)
 obtain⟨W0,hW0⟩:∃W0,W0=w.alloc (.map #[] 0):=⟨_,rfl⟩;have hs0:=Shelf.made (R:=fun j=>j<w.heap.size) w (fun _ h=>h);have hb0:=J6 w (.map #[] 0);rw[←hW0]at hs0 hb0;have HS0:=J1 hs0;have HB0:=J1 hb0;have HW0:=J1 hW0;clear ht hl hl' hP hi hn hnn hxl hs0 hb0 hW0;go_enter Tryz.func138,Tryz.ntmps138;go_wp2_with fail;rw[←HW0.out];clear hmm
 go_loopw [12] (fun i wr=>∃(q:Nat) (g:List UInt8→Value) (U:List UInt8→List Value),q≤n∧i=.int .i64 q∧Hid (Shelf (fun j=>j<w.heap.size) (w.heap.size+1) wr w.heap.size q g U (fun s=>Hs.alike xs (some s) (L.take q)))∧Below w w wr) (fun i _=>n-(intOf i).toNat)
 case atStart=>exact⟨0,_,_,E3 _,rfl,J1 (by simpa[Hs.alike]using HS0.out),HB0.out⟩
 case round =>
  obtain⟨q,g,U,hq,rfl,HS,hb⟩:=hrel
  by_cases hlt:q<n
  ·obtain⟨t,gt⟩:∃t,L[q]?=some t:=⟨L[q]'(by have:=HN.out;omega),A8 _⟩
   obtain⟨b1,o1,p1,B1,d1,hL0,hd1,h1⟩:=HL.out.pick gt;subst hL0
   have i1:(0:Int)≤(q:Int):=by omega
   have i2:(q:Int)<(n:Int):=by omega
   obtain⟨hcell,hu⟩:=h1 wr hb;have ck:=CK.out _ t wr hb hu (C8 gt);obtain⟨tl,htl⟩:∃n,n=t.length:=⟨_,rfl⟩;rw[←htl]at ck hcell hd1;have H1:=J1 h1;have HLT:=J1 hlt;have HTL:=J1 htl
   cases hk:Hs.key xs t with
   | none =>
    have HF:=J1 (A3K gt hk);rw[hk]at ck;clear gt hu h1 hk htl hlt hd1;go_wp2_with fail;refine ck.mono ?_;rintro E w2 ⟨rfl,hb2⟩;have HB2:=J1 (J5 hb hb2);have HS2:=J1 ((HS.out.below hb2).mono (Nat.le_succ q));have hlt:=HLT.out;clear ck hb hb2 hcell;go_wp2_with fail
    go_roundw
    case rel=>exact⟨q+1,g,U,by omega,by go_num,J1 (by rw[HF.out];exact HS2.out),HB2.out⟩
    case measure=>simp[intOf];omega
   | some k0 =>
    have HF:=J1 (A3J gt hk)
    have hk0:k0.length≤22000:=by have h3:=Hs.key_le hk (HI.out t (C8 gt));have:=HXN.out;omega
    rw[hk]at ck;clear gt hu h1 hk htl hlt;go_wp2_with fail;refine ck.mono ?_;rintro E w2 ⟨rfl,hb2⟩;have HB2:=J1 (J5 hb hb2);have hs2:=HS.out.below hb2;have hcell2:=(H1.out w2 (J5 hb hb2)).1;rw[←HTL.out]at hcell2;have HS2:=J1 hs2;clear ck hb hb2 hcell;go_wp2_with fail;obtain⟨v0,hv0⟩:∃v0,v0=g k0:=⟨_,rfl⟩;obtain⟨wa,hwa⟩:∃wa,wa=(w2.alloc (Obj.cells #[.slice B1 tl d1] 33)).drew:=⟨_,rfl⟩
    have hba:Below w2 w2 wa:=by rw[hwa];exact Below.drew (J6 w2 _)
    have hsa:=hs2.below hba;have hrow:=hsa.row k0;have hua:=(H1.out wa (J5 HB2.out hba)).2;rw[←HTL.out]at hua;obtain⟨m,hm⟩:∃m,m=(Hs.alike xs (some k0) (L.take q)).length:=⟨_,rfl⟩
    have hmq:m≤q:=by have h3:=(Hs.alike_sub (xs:=xs) (k:=some k0) (R:=L.take q)).length_le;rw[E4]at h3;omega
    rw[←hm,←hv0]at hrow;have HOA:=J1 hrow.own
    have HCN:=J1 (show ∀(j:Nat) (x:Value),[Value.slice B1 tl d1][j]?=some x→wa.cell? ((⟨w2.heap.size,0,none⟩:Addr).add j)=some x by rw[hwa];exact cell_one_new w2 (.slice B1 tl d1) 33)
    have HSTO:=J1 (show ∀(v5:Value) (w5:World),w5.ownsRow (w.heap.size+1) 33 1 v5 (m+1) (U k0++[.slice B1 tl d1])→wa.grownBy w5 v0.ownBlock→(v5.ownBlock=v0.ownBlock∨∃g,v5.ownBlock=some g∧wa.heap.size≤g) →
      ∃w6,(Instr.mapUpdate 175 (.map (some w.heap.size)) (.string ⟨k0.toArray⟩) v5).run Tryz.prog w5=.ok () w6∧Hid (∃g' U',Shelf (fun j=>j<w.heap.size) (w.heap.size+1) w6 w.heap.size (q+1) g' U' (fun s=>Hs.alike xs (some s) (L.take (q+1)))∧Below w w w6) from fun v5 w5 h1 h2 h3=>by
     have hp:=hrow.push (hua.mono fun k _ hk=>⟨fun e=>by have:=(hrow.own.lt k e).1;omega,hk⟩) h1 h2 h3
     obtain⟨w6,hr,h6,h7⟩:=hsa.store (k0:=k0) (ts':=Hs.alike xs (some k0) (L.take q)++[t]) (by unfold maxLen;omega) (by rw[←hv0];exact h2) (by rw[C6,←hm];exact hp) (by rw[←hv0];exact h3) (by unfold maxLen;omega)
     refine⟨w6,hr,J1 ⟨_,_,by rw[HF.out];exact h6,?_⟩⟩
     have h8:Below w w w5:=(J5 HB2.out hba).grown h2 (J5 HB2.out hba).size (fun k hk=>by have:=(hrow.own.lt k hk).1;omega)
     exact h8.grown h7 h8.size (fun k hk=>by cases hk;exact C3 _))
    have HWA:=J1 hwa;have HBA:=J1 (D5 (Nat.succ_le_of_lt hsa.blt) (C3 _))
    have l1:(Instr.lookup 175 (.map (some w.heap.size)) (.string ⟨k0.toArray⟩) false).run Tryz.prog w2.drew=.ok v0 w2.drew:=by rw[hv0];exact(hs2.below (w':=w2.drew) (Below.drew (Below.refl _ _))).look (by unfold maxLen;omega)
    have l2:(Instr.lookup 175 (.map (some w.heap.size)) (.string ⟨k0.toArray⟩) false).run Tryz.prog ((w2.alloc (Obj.cells #[.slice B1 tl d1] 33)).drew)=.ok v0 ((w2.alloc (Obj.cells #[.slice B1 tl d1] 33)).drew):=by
     rw[hv0];have h2:=hs2.below (w':=(w2.alloc (Obj.cells #[.slice B1 tl d1] 33)).drew) (Below.drew (J6 w2 _))
     exact h2.look (by unfold maxLen;omega)
    have c1:w2.drew.cell? ((⟨b1,o1,p1⟩:Addr).add q)=some (.slice B1 tl d1):=hcell2;have HMQ:=J1 hmq;clear hcell2 hs2 hsa hrow hua hba hv0 hm hmq;rw[hwa]at HOA HCN HSTO HBA;clear hwa
    go_region_law (refine A1a rfl (.tmp 29) (.tmp 34) 29 rfl (w.heap.size+1) 33 i0 (.slice none 0 0) 1 24 Tryz.underlying29 hi0 hz0 hz1 hz2 rfl (by decide) v0 m (U k0) (by simp[Act.eval]) HOA.out ⟨w2.heap.size,0,none⟩ 1 1 [.slice B1 tl d1] (by simp[Act.eval]) rfl HCN.out (by intro u hu;simp at hu;subst hu;rfl) (by have:=HMQ.out;unfold maxLen;omega) (by have:=HMQ.out;omega) HBA.out ?_;intro v5 w5 hg5;obtain⟨w6,hr6,hh6⟩:=HSTO.out v5 w5 hg5.out.1 hg5.out.2.1 hg5.out.2.2)
    all_goals
     have hlt:=HLT.out;clear hr6 l1 l2 c1 hg5;obtain⟨g',U',hs6,hb6⟩:=hh6.out;have HS6:=J1 hs6;have HB6:=J1 hb6;clear hs6 hb6 hh6;go_wp2_with fail
     go_roundw
     case rel=>exact⟨q+1,g',U',by omega,by go_num,HS6,HB6.out⟩
     case measure=>simp[intOf];omega
  ·have hres:=J1 (show OwnShelf w xs L (.returned (.map (some w.heap.size))) wr from⟨_,_,_,g,U,rfl,by
    have h3:=HS.out
    rw[C7 (by have:=HN.out;omega)]at h3
    exact h3,C3 _,hb⟩)
   have i2:¬((q:Int)<(n:Int)):=by omega
   clear hb hlt HS;go_wp2_with fail;go_ret;exact hres.out
namespace Hs
def Wf (L:List (List (List Vl))):Prop:=∀t∈L,∀x∈t,∀v∈x,I64 v.2
theorem A8U {x:Tm} (hk:x.k=1) {t:List (List Vl)} (ht:∀r∈t,∀v∈r,I64 v.2):I64 (Te.val x t).2:=by
 rw[Te.val_col hk]
 by_cases h1:0≤x.t∧x.t<t.length
 ·obtain⟨j,r,_,_,hj,hr⟩:=Te.at_in t h1.1 h1.2;rw[Te.col_some hr]
  by_cases h2:0≤x.c∧x.c<r.length
  ·obtain⟨i,v,_,_,hi,hv⟩:=Te.at_in r h2.1 h2.2;rw[hv];exact ht r (C8 hj) v (C8 hi)
  ·rw[Te.at_out r h2];exact⟨by decide,by decide⟩
 ·rw[Te.col_out h1];exact⟨by decide,by decide⟩
theorem A2P {s:Nat} {x:Tm} (h:inn s x=true):x.k=1:=by
 rw[A8Z]at h;simp only[E7,decide_eq_true_iff]at h;exact h.1
theorem A4S {ps:List Pd} {l r:Nat} {c:Tm × Tm} (h:c∈keys ps l r):c.1.k=1∧c.2.k=1:=by
 obtain⟨p,_,hk⟩:=List.mem_filterMap.1 h;unfold key1 at hk
 split at hk
 ·split at hk
  ·rename_i h1
   simp only[E7]at h1;cases hk;exact⟨A2P h1.1,A2P h1.2⟩
  ·split at hk
   ·rename_i h1
    simp only[E7]at h1;cases hk;exact⟨A2P h1.1,A2P h1.2⟩
   ·cases hk
 ·cases hk
theorem wf_fst {ps:List Pd} {l r:Nat} {L:List (List (List Vl))} (hL:Wf L):∀t∈L,∀x∈(keys ps l r).map Prod.fst,I64 (Te.val x t).2:=fun t ht x hx=>by
 obtain⟨c,hc,rfl⟩:=List.mem_map.1 hx;exact A8U (A4S hc).1 (hL t ht)
theorem wf_snd {ps:List Pd} {l r:Nat} {L:List (List (List Vl))} (hL:Wf L):∀t∈L,∀x∈(keys ps l r).map Prod.snd,I64 (Te.val x t).2:=fun t ht x hx=>by
 obtain⟨c,hc,rfl⟩:=List.mem_map.1 hx;exact A8U (A4S hc).2 (hL t ht)
end Hs
theorem A8T (a:Addr) (m n:Nat):(a.add m).add n=a.add (m+n):=by
 unfold Addr.add
 by_cases h1:n=0 <;> by_cases h2:m=0 <;> simp[h1,h2] <;> omega
theorem A6b {T:Nat→Prop} {w:World} {a:Addr} {n c q:Nat} {ts:List (List (List Vl))} (h:TusOn T w (.slice (some a) n c) ts) {t:List (List Vl)} (hq:ts[q]?=some t) (hn:q<n):TusOn T w (.slice (some (a.add q)) 1 (c-q)) [t]:=by
 obtain⟨us,⟨A',c',hv,hc,hx⟩,hl,ht⟩:=h
 injection hv with e1 e2 e3
 subst e1 e3;obtain⟨u,hu,hr⟩:=ht q t hq
 refine⟨[u],⟨_,c-q,rfl,by simp;omega,fun j y hj=>?_⟩,rfl,fun i x hi=>?_⟩
 ·match j,hj with
  | 0,hj =>
   cases hj;obtain⟨b,o,p,h1,h2,h3,h4⟩:=hx q u hu;cases h1;refine⟨_,_,_,rfl,?_,?_,?_⟩
   ·show T ((⟨b,o,p⟩:Addr).add q).block
    rw[L7];exact h2
   ·show((⟨b,o,p⟩:Addr).add q).block<_
    rw[L7];exact h3
   ·show w.cell? (((⟨b,o,p⟩:Addr).add q).add 0)=_
    rw[A8T];exact h4
 ·match i,hi with
  | 0,hi=>cases hi;exact⟨u,rfl,hr⟩
theorem A7a (k:Int) (d:Nat) (cv lv rv:Value) (ps:List Pd) (L R:List (List (List Vl))) (l r:Nat) (w:World) (hp:PsAt d w cv ps) (hsz:Pr.sizes ps≤1000) (hW:Want w) (hP:Pows w) (hl:TusOn Al w lv L) (hr:TusOn Al w rv R)
  (hfl:Ns.Few 10000 100 L) (hfr:Ns.Few 10000 100 R) (hwl:Hs.Wf L) (hwr:Hs.Wf R) (hl64:l<18446744073709551616) (hr64:r<18446744073709551616) :
  Calls Tryz.prog 113 #[k,cv,lv,rv,.int .u64 (l:Int),.int .u64 (r:Int)] w (OwnTus w (Hs.join k ps l r L R)):=by
 obtain⟨i0,hi,hz0,hz1,hz2⟩:=info_parts Tryz.infoTup13;have hpl:=Pr.sizes_length ps
 have c1:=A69 d cv ps l r w hp hl64 hr64 (by omega)
 have hkl:=Hs.keys_le ps l r;obtain⟨P0,p0,rfl,_⟩:=hp.form;obtain⟨L0,c0,rfl,hnc⟩:=hl.form;obtain⟨R0,cr,rfl,_⟩:=hr.form
 have CJ:=J1 (show ∀(u va:Value) (t:List (List Vl)) (RA:List (List (List Vl))) (W:World),Below w w W→TusOn Al W u [t]→TusOn Al W va RA→t∈L→Ns.Few 10000 100 RA→_ from fun u va t RA W hb hu hv ht hRA =>
  A3m k d (.slice P0 ps.length p0) u va ps [t] RA W (hp.below hb (C3 _)) hsz (hW.below hb (C3 _)) hu hv (hfl.one ht) hRA)
 obtain⟨KS,hKS⟩:∃K,K=Hs.keys ps l r:=⟨_,rfl⟩;have hwf:=Hs.wf_fst (ps:=ps) (l:=l) (r:=r) hwl;have hws:=Hs.wf_snd (ps:=ps) (l:=l) (r:=r) hwr;have hjt:=fun q t (h:L[q]?=some t)=>Hs.join_take (k:=k) (ps:=ps) (l:=l) (r:=r) (R:=R) h
 have HJ0:Hid (Hs.join k ps l r (L.take 0) R=[]):=J1 (by rw[F8];rfl)
 rw[←hKS]at hwf hws hjt hkl c1
 have hks:KS.length≤1000:=by omega
 have HL:=J1 hl;have HR:=J1 hr;have HP:=J1 hP;have HFR:=J1 hfr;have HWF:=J1 (J0 hwf hws);have HJT:=J1 hjt;have HFL:=J1 (J0 hfl.len hfr.len);obtain⟨n,hn⟩:∃n,n=L.length:=⟨_,rfl⟩;obtain⟨rl,hrl⟩:∃n,n=R.length:=⟨_,rfl⟩;obtain⟨pl,hpl2⟩:∃n,n=ps.length:=⟨_,rfl⟩;rw[←hn]at HL hnc;rw[←hrl]at HR;rw[←hpl2]at CJ c1;rw[←hn,←hrl,←hpl2];have HN:=J1 (J0 hn hrl)
 have hn100:n≤10000:=by rw[hn];exact hfl.len
 clear hp hsz hW hP hl hr hfl hfr hwl hwr hl64 hr64 hpl hkl hwf hws hjt hn hrl hpl2;go_enter Tryz.func113,Tryz.ntmps113;go_wp2_with fail;refine c1.mono ?_;rintro E w1 ⟨v1,rfl,ho1,hb1⟩;have hk1:=KysAt.own ho1 rfl;have c2:=A5N v1 KS w1 hk1 hks;clear c1 ho1;go_wp2_with fail;refine c2.mono ?_;rintro E w2 ⟨v2,rfl,ho2,hb2⟩;have ht2:=TmsAt.own ho2 rfl;have c3:=A5M v1 KS w2 (hk1.below hb2 (C3 _)) hks;have hb02:=J5 hb1 hb2;clear c2 ho2;go_wp2_with fail;refine c3.mono ?_;rintro E w3 ⟨v3,rfl,ho3,hb3⟩;have ht3:=TmsAt.own ho3 rfl;have hb03:=J5 hb02 hb3
 have c4:=A4k v3 (.slice R0 rl cr) (KS.map Prod.snd) R w3 ht3 (HR.out.below hb03 (C3 _)) (HP.out.below hb03 (C3 _)) HWF.out.2 (by rw[E0];exact hks) (by have:=HFL.out.2;omega)
 have HT2:=J1 (ht2.below hb3 (C3 _));clear c3 ho3 ht3 ht2 hk1;go_wp2_with fail;refine c4.mono ?_;rintro E w4 ⟨b,base,nn,g,U,rfl,hsh,_,hb4⟩;have hb04:=J5 hb03 hb4;have HT4:=J1 (HT2.out.below hb4 (C3 _));have HSH:=J1 hsh;have HB4:=J1 hb04;clear c4 hb1 hb2 hb3 hb02 hb03 hb4 hb04 hsh HT2;go_wp2_with fail
 go_loopw [16,33] (fun s i wr=>∃(q m a:Nat) (us:List Value) (A:Option Addr),q≤n∧i=.int .i64 q∧s=.slice A m a∧m≤q*10001∧m≤a∧Hid (TuRow (fun j=>w.heap.size≤j) w4.heap.size wr (.slice A m a) m us (Hs.join k ps l r (L.take q) R))∧Below w4 w4 wr) (fun _ i _=>n-(intOf i).toNat)
 case atStart=>exact⟨0,0,0,[],none,E3 _,rfl,rfl,E3 _,C3 _,J1 ⟨World.ownsRow_nil _ _ _ _,by rw[HJ0.out];rfl,fun i t h=>by rw[HJ0.out]at h;simp at h⟩,Below.refl _ _⟩
 case round =>
  obtain⟨q,m,a,us,A,hq,rfl,rfl,hmq,hma,HT,hb⟩:=hrel;have hbr:=HB4.out.trans (M9 hb HB4.out.size)
  by_cases hlt:q<n
  ·obtain⟨t,gt⟩:∃t,L[q]?=some t:=⟨L[q]'(by have:=HN.out.1;omega),A8 _⟩
   have hL:=HL.out.below hbr (C3 _);obtain⟨b1,o1,p1,B1,d1,hL0,hd1,h1⟩:=hL.pick gt;subst hL0;obtain⟨lb,hlb⟩:∃lb,lb=(⟨b1,o1,p1⟩:Addr):=⟨_,rfl⟩;rw[←hlb]at h1 HL hL ⊢;have htm:=C8 gt;obtain⟨hcell,hu⟩:=h1 wr (Below.refl _ _)
   have ck:=A4U v2 (.slice B1 t.length d1) (KS.map Prod.fst) t wr (HT4.out.below hb (C3 _)) hu.rws (HP.out.below hbr (C3 _)) (HWF.out.1 t htm) (by rw[E0];exact hks)
   have HJ:=J1 (HJT.out q t gt);have hone:=fun W (h:Below wr wr W)=>A6b (hL.below h (C3 _)) gt hlt;have HONE:=J1 hone;have HTM:=J1 htm;obtain⟨tl,htl⟩:∃n,n=t.length:=⟨_,rfl⟩;rw[←htl]at ck hcell;have HBR:=J1 hbr;have HB:=J1 hb;have HLT:=J1 hlt
   have i1:(0:Int)≤(q:Int):=by omega
   have i2:(q:Int)<(n:Int):=by omega
   have e1:((q:Int)+1)≤(n:Int):=by omega
   have e2:(q:Int)≤(q:Int)+1:=by omega
   have e5:(q:Int)+1≤(c0:Int):=by omega
   have e6:¬(c0=q):=by omega
   have e7:¬(c0-q=0):=by omega
   have e8:(0:Int)≤(q:Int)+1:=by omega
   have e9:((q:Int)+1).toNat=q+1:=by omega
   have e10:(q:Int)≤(c0:Int):=by omega
   clear hL h1 gt hu hone htm htl hbr hb hlt hlb hd1
   rcases hk:Hs.key (KS.map Prod.fst) t with _ | k0
   case' none =>
    rw[hk]at ck HJ;clear hk;go_wp2_with fail;refine ck.mono ?_;rintro E w5 ⟨rfl,hb5⟩;have hbr5:=J5 HBR.out hb5;have hbw5:=J5 HB.out hb5;have hRA:Ns.Few 10000 100 (Hs.alike (KS.map Prod.snd) none R):=Hs.few_alike HFR.out;have cj:=CJ.out (.slice (some (lb.add q)) 1 (c0-q)) (.slice none 0 0) t (Hs.alike (KS.map Prod.snd) none R) w5 hbr5 (HONE.out w5 hb5) (TusOn.nil _ _) HTM.out hRA;rw[Ns.join_one]at cj;obtain⟨M,hM⟩:∃M,M=Mt.extend k ps t (Hs.alike (KS.map Prod.snd) none R):=⟨_,rfl⟩
    have hml:M.length≤10001:=by rw[hM];have:=Ns.extend_le k ps t (Hs.alike (KS.map Prod.snd) none R);have:=hRA.len;omega
    rw[←hM]at cj HJ;have HB5:=J1 (J0 hbr5 hbw5);have HT5:=HT.out.keep (S:=fun _=>True) (N4 hb5) (fun _ _=>trivial) (fun _ _ _ _=>trivial);have HT5:=J1 HT5;have HCJ:=J1 cj;clear ck hb5 hbr5 hbw5 hRA hM cj
   case' some =>
    have hkl:=Hs.key_le hk (HWF.out.1 t HTM.out);rw[E0]at hkl;rw[hk]at ck HJ;clear hk;go_wp2_with fail;refine ck.mono ?_;rintro E w5 ⟨rfl,hb5⟩;have hbr5:=J5 HBR.out hb5;have hbw5:=J5 HB.out hb5;have hs5:=HSH.out.below hbw5
    have hlook:=hs5.look (k:=k0) (by unfold maxLen;omega)
    have hRA:Ns.Few 10000 100 (Hs.alike (KS.map Prod.snd) (some k0) R):=Hs.few_alike HFR.out;have htu:=(hs5.row k0).tus;obtain⟨va,hva⟩:∃va,va=g k0:=⟨_,rfl⟩;rw[←hva]at hlook htu;have cj:=CJ.out (.slice (some (lb.add q)) 1 (c0-q)) va t (Hs.alike (KS.map Prod.snd) (some k0) R) w5 hbr5 (HONE.out w5 hb5) htu HTM.out hRA;rw[Ns.join_one]at cj;obtain⟨M,hM⟩:∃M,M=Mt.extend k ps t (Hs.alike (KS.map Prod.snd) (some k0) R):=⟨_,rfl⟩
    have hml:M.length≤10001:=by rw[hM];have:=Ns.extend_le k ps t (Hs.alike (KS.map Prod.snd) (some k0) R);have:=hRA.len;omega
    rw[←hM]at cj HJ;have HB5:=J1 (J0 hbr5 hbw5);have HT5:=HT.out.keep (S:=fun _=>True) (N4 hb5) (fun _ _=>trivial) (fun _ _ _ _=>trivial);have HT5:=J1 HT5;have HCJ:=J1 cj;clear ck hb5 hbr5 hbw5 hRA hM cj hs5 htu hva hkl
   all_goals
    clear hcell;go_wp2_with fail;refine HCJ.out.mono ?_;rintro E w6 ⟨MA,mc,us6,rfl,hMO,_,hb6⟩;have hMT:=hMO.tusOn (S:=fun j=>w5.heap.size≤j) (fun _ h=>h) (fun _ h=>h);have hT6:=HT5.out.keep (S:=fun _=>True) (N4 hb6) (fun _ _=>trivial) (fun _ _ _ _=>trivial)
    obtain⟨news,hn1,hn2,hn3,hn4,hn5⟩:=hT6.more hMT (fun j hj1 hj=>⟨fun e=>by have:=(HT5.out.own.lt j e).2;omega,by have:=HB5.out.1.size;omega⟩)
    obtain⟨ml,hml'⟩:∃n,n=M.length:=⟨_,rfl⟩;rw[←hml']at hn1 hn2 hn4 hn5 hml ⊢;have HN5:=J1 hn5;have HT6:=J1 hT6;have HB6:=J1 (J5 HB5.out.2 hb6);clear HCJ hMO hMT hb6 hn5 hT6 hn2 hml';have hlt:=HLT.out
    by_cases hz:ml=0
    ·subst hz;obtain rfl:news=[]:=D6 hn1;clear hn1 hn3 hn4
     go_wp2_with (first
      | (at_builtin;refine A0A _ rfl _ _ 29 rfl 33 i0 Tryz.underlying29 hi A MA m a mc rfl rfl hma ?_))
     have hT7:=HN5.out _ w6 (by simpa using HT6.out.own) ⟨rfl,rfl,rfl,C3 _,fun _ _ _=>rfl⟩ (.inl rfl)
     rw[←HJ.out,F3]at hT7;have HT7:=J1 hT7;clear hT7;go_wp2_with fail
     go_roundw
     case rel=>exact⟨q+1,m,a,us,A,by omega,by go_num,rfl,by omega,hma,HT7,HB6.out⟩
     case measure=>simp[intOf];omega
    ·obtain⟨ad,rfl,hn6⟩:=hn4 (by omega)
     have HN6:=J1 hn6;have HN3:=J1 hn3
     have hn1':news.length=ml*1:=by omega
     have HN1:=J1 hn1';clear hn1 hn1' hn3 hn4 hn6 hz
     go_wp2_with (first
      | (at_builtin;refine Q8 _ rfl _ _ 29 rfl w4.heap.size 33 i0 (.slice none 0 0) 1 24 Tryz.underlying29 hi hz0 hz1 hz2 rfl (by decide) _ m us rfl HT6.out.own ad ml mc news rfl HN1.out ?c1 ?c2 ?c3 ?c4 ?c5 ?_))
     case c1=>exact HN6.out
     case c2=>exact HN3.out
     case c3=>unfold maxLen;omega
     case c4=>omega
     case c5=>exact HB6.out.size
     intro v1 w7 hown3 hgrow hwhere;have hT7:=HN5.out v1 w7 hown3 hgrow hwhere;rw[←HJ.out]at hT7;have hb7:Below w4 w4 w7:=HB6.out.grown hgrow HB6.out.size (fun k hk=>(HT6.out.own.lt k hk).1)
     obtain⟨A5,a5,rfl,ha5⟩:∃A5 a5,v1=.slice A5 (m+ml) a5∧m+ml≤a5:=by
      rcases hown3.2 with⟨rfl,h0⟩ | ⟨g,cap,cur,rfl,_,_,hnc,_⟩
      ·rw[h0];exact⟨none,0,rfl,C3 _⟩
      ·exact⟨_,cap,rfl,hnc⟩
     have HT7:=J1 hT7;clear hT7 hown3 hgrow hwhere;go_wp2_with fail
     go_roundw
     case rel=>exact⟨q+1,m+ml,a5,_,A5,by omega,by go_num,rfl,by omega,ha5,HT7,hb7⟩
     case measure=>simp[intOf];omega
  ·have hres:=J1 (show OwnTus w (Hs.join k ps l r L R) (.returned (.slice A m a)) wr from by
    have h1:=HT.out
    rw[C7 (by have:=HN.out.1;omega)]at h1
    have h2:=h1.len;have h3:TuRow (fun j=>w.heap.size≤j) w.heap.size wr (.slice A m a) m us (Hs.join k ps l r L R):=⟨h1.own.mono HB4.out.size,h1.len,h1.tup⟩
    exact⟨A,a,us,by rw[h2],by rw[h2];exact h3,by rw[h2];exact hma,hbr⟩)
   have i2:¬((q:Int)<(n:Int)):=by omega
   clear hb hbr hlt HT;go_wp2_with fail;go_ret;exact hres.out
set_option maxRecDepth 100000
open Go.RowKit Go.WideShapes Go.ChangeShapes Go.Deep
section
variable {H:Type} {enc:TypeId × Value→H} {W:World}
theorem A9O {v:Value} {vs:List Value} {rs:List (List Vl)} (h:RwsOf W v vs rs):RwsOn Al W v rs:=(Rws.on ⟨vs,h⟩).al
end
theorem gTab13:Tryz.prog.globalNamed "math/bits.deBruijn64tab"=some 1:=by kernel_rfl
theorem gTabType13:(Tryz.prog.globals[1]?).map (·.type)=some 179:=by kernel_rfl
theorem A5W:Tryz.prog.cellsOf 179=64:=by kernel_rfl
theorem A4p:Tryz.prog.cellsOf 5=1:=by kernel_rfl
set_option maxRecDepth 100000
section
variable {H:Type} {enc:TypeId × Value→H} {W:World}
theorem A3V {v:Value} {fuel:Nat} {x:DataW H × List MemPlace} (h:DataW.trod enc Tryz.prog W 0 (fun _=>true) true fuel 63 [v]=some x):∃r,RowAt W v r∧∀y∈r,Hs.I64 y.2:=by
 rcases open_slice_pairs Tryz.underlying63 Tryz.underlying53 (by kernel_rfl) (by kernel_rfl) (by kernel_rfl) (by kernel_rfl) (by kernel_rfl) h with⟨hv,_⟩ | ⟨a,len,cap,m,n,V0,V1,D0,D1,P0,P1,hv,_,hl,_,hm,_,hx⟩
 ·obtain rfl:v=.slice none 0 0:=by simpa using hv
  exact⟨[],RowAt.nil W,fun y hy=>by cases hy⟩
 ·obtain rfl:v=.slice (some a) len cap:=by simpa using hv
  simp only[if_true]at hm
  have each:∀i,i<len→∃y:Vl,V0 i=.bool y.1∧V1 i=.int .i64 y.2∧Hs.I64 y.2:=by
   intro i hi
   obtain⟨_,_,h0,h1⟩:=hx i (by omega)
   obtain⟨b,hb,_⟩:=DataW.trod_bool Tryz.underlying4 h0;obtain⟨z,hz,_,hwf⟩:=DataW.trod_int Tryz.underlying2 h1
   exact⟨(b,z),by simpa using hb,by simpa using hz,bounds_i64 hwf⟩
  obtain⟨f,hf⟩:=choose_lt each
  refine⟨(List.range len).map f,⟨some a,cap,by simp,by simpa using hl,fun j y hj=>?_⟩,fun y hy=>?_⟩
  ·have hjl:j<len:=by
    by_cases h:j<len
    ·exact h
    ·rw[E6 (by simp;omega)]at hj;cases hj
   obtain rfl:f j=y:=by simpa[hjl]using hj
   obtain⟨h0,h1,_,_⟩:=hx j (by omega)
   rw[(hf j hjl).1]at h0;rw[(hf j hjl).2.1]at h1;obtain⟨b,o,p⟩:=a;refine⟨b,o,p,rfl,?_,h0,h1⟩;have:=block_lt_of_cell h0
   rwa[L7]at this
  ·obtain⟨i,hi,rfl⟩:=List.mem_map.1 hy;exact(hf i (List.mem_range.1 hi)).2.2
theorem A26 {A0:Option Addr} {n0 c0:Nat} {d:DataW H} {p:List MemPlace} (h:DataW.Trod enc Tryz.prog W 0 (fun _=>true) true 33 (.slice A0 n0 c0) d p) :
  ∃rs,RwsOn Al W (.slice A0 n0 c0) rs∧∀r∈rs,∀y∈r,Hs.I64 y.2:=by
 obtain⟨fuel,hf⟩:=h
 rcases open_slice1 Tryz.underlying33 (by kernel_rfl) hf with⟨hv,_⟩ | ⟨a,len,cap,m,n,V,D,Pl,hv,_,hl,_,hm,_,hx⟩
 ·simp only[Value.cells,List.cons.injEq,Value.slice.injEq,and_true]at hv;obtain⟨rfl,rfl,rfl⟩:=hv
  exact⟨[],RwsOn.nil _ _,fun r hr=>by cases hr⟩
 ·simp only[Value.cells,List.cons.injEq,Value.slice.injEq,and_true]at hv;obtain⟨rfl,rfl,rfl⟩:=hv;simp only[if_true]at hm
  have each:∀i,i<n0→∃r,RowAt W (V i) r∧∀y∈r,Hs.I64 y.2:=fun i hi=>A3V (hx i (by omega)).2
  obtain⟨f,hf⟩:=choose_lt each
  have hs:Sl W (.slice (some a) n0 c0) ((List.range n0).map V):=by
   refine⟨some a,c0,by simp,by simpa using hl,fun j u hu=>?_⟩
   have hj:j<n0:=by
    by_cases h:j<n0
    ·exact h
    ·rw[E6 (by simp;omega)]at hu;cases hu
   obtain rfl:V j=u:=by simpa[hj]using hu
   have hc:=(hx j (by omega)).1
   obtain⟨b,o,p⟩:=a;refine⟨b,o,p,rfl,?_,hc⟩;have:=block_lt_of_cell hc
   rwa[L7]at this
  refine⟨(List.range n0).map f,A9O (vs:=(List.range n0).map V) ⟨hs,by simp,fun i r hr=>?_⟩,fun r hr=>?_⟩
  ·have hi:i<n0:=by
    by_cases h:i<n0
    ·exact h
    ·rw[E6 (by simp;omega)]at hr;cases hr
   obtain rfl:f i=r:=by simpa[hi]using hr
   exact⟨V i,by simp[hi],(hf i hi).1⟩
  ·obtain⟨i,hi,rfl⟩:=List.mem_map.1 hr;exact(hf i (List.mem_range.1 hi)).2
end
theorem gPow15:Tryz.prog.globalNamed "internal/strconv.uint64pow10"=some 3:=by kernel_rfl
theorem gPowType15:(Tryz.prog.globals[3]?).map (·.type)=some 242:=by kernel_rfl
theorem A7t:Tryz.prog.cellsOf 242=20:=by kernel_rfl
theorem A8K:Tryz.prog.cellsOf 45=1:=by kernel_rfl
theorem A9e {W:World} {l:List (String × DataW Unit)} (h:laidMet Tryz.prog l W) (m1:("internal/strconv.uint64pow10",Lib.tabData .u64 Lib.pow10Tab)∈l):Pows W:=by
 obtain⟨g,t,cs,fuel,p0,h1,h2,h3,h4⟩:=A2M h m1;obtain rfl:=F0 (gPow15.symm.trans h1);obtain rfl:=F0 (gPowType15.symm.trans h2);unfold Pows Lib.TabIs;rw[h3,←Lib.cells_of_tab Tryz.underlying242 Tryz.underlying45 A8K A7t h4]
end Go.Proofs.YtbddhkgbpjhhaaaGreatDoor
