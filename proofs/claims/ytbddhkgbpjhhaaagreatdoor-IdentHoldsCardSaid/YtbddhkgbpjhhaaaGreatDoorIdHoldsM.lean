/-
  THE LAW IdentHolds: the identities.
-/
import Derived.Test.YtbddhkgbpjhhaaaGreatDoorIdaM
import Derived.Test.YtbddhkgbpjhhaaaGreatDoorGCkC
import Derived.Test.YtbddhkgbpjhhaaaGreatDoorGEx
import Derived.Test.YtbddhkgbpjhhaaaGreatDoorGBag
import Derived.Test.YtbddhkgbpjhhaaaGreatDoorIdhM
set_option maxHeartbeats 6400000
set_option maxRecDepth 100000
namespace Go.Proofs.YtbddhkgbpjhhaaaGreatDoor
open Go.RowKit Go.Sort
theorem A7f {t:List (List Vl)} {s:Nat} {cols:List Int} (hc:cols.length≤64) (hx:∀x∈cols,x≤100):(Mt.flat t s cols).length≤6400:=by
 rw[←Mt.flat_memb t s cols hc,Mt.flatOf_length];refine D5 (Mt.wide_le hx _) ?_
 have:(St.memb (s &&& St.belowN ((cols.length:Int)-1))).length≤64:=by
  unfold St.memb St.membTo
  exact D5 (List.length_filter_le _ _) (by simp)
 omega
theorem A4E {cols:List Int} {a:Tr} {D:List (List (List Vl))} (hz:Ck.data cols a D=0) (hok:Ex.Ok 10000 cols D a):(Ex.run cols a D).length≤1000000∧∀x∈Ex.run cols a D,x.length≤1000000:=by
 unfold Ex.run;rw[if_pos hz];have hs:=Ex.sound_of hz
 refine⟨by unfold Ex.rows;rw[E0];exact D5 (hok.few (C3 _)).len (by decide),fun x hx=>?_⟩
 obtain⟨t,_,rfl⟩:=List.mem_map.1 hx
 exact D5 (A7f hs.wide fun x hx=>by have:=hs.col x hx;omega) (by decide)
theorem Id.holds_all {cols:List Int} {a b:Tr} {D:List (List (List Vl))} (hz:Ck.data cols a D=0) (hok:Ex.Ok 10000 cols D a) (hb:b∈Id.ways a) :
  Ck.query cols b=0∧Ck.data cols b D=0∧Ex.Ok 10000 cols D b∧Bg.same Bg.cr (Ex.run cols b D) (Ex.run cols a D)=true:=by
 have hq:Ck.query cols a=0:=by
  unfold Ck.data at hz
  split at hz
  ·rename_i hh;exact absurd hz hh
  ·rename_i hh;exact Decidable.not_not.1 hh
 have e:=Id.ways_all hq hb;have hzb:=Id.data_eqv hz e
 refine⟨Id.query_eqv hq e,hzb,⟨e.good,e.lv.nodup_iff.2 hok.nodup,by rw[e.prod];exact hok.most,hok.fine,hok.len,by rw[e.size];exact hok.size⟩,?_⟩
 unfold Ex.run;rw[if_pos hz,if_pos hzb];exact Bg.same_perm (Id.rows_eqv hok.fine hok.len e)
theorem A1U (a:Tr) (cols:List Int) (cv u v dv:Value) (D:List (List (List Vl))) (w:World) (hc:Sl w cv (cols.map (Value.int .i64))) (hu:∃d,TsAt d w u a.ks) (hv:PsSome w v a.cs) (hd:Dts w dv D)
  (hwf:∀rs∈D,∀x∈rs,∀v∈x,-9223372036854775808≤v.2∧v.2≤9223372036854775807) (hC:Chgs w) (hW:Want w) (hP:Pows w) (hT:Tab w) :
  Calls Tryz.prog 3 #[.agg #[cv,a.k,a.t,u,v,a.h],dv] w fun e w'=>e=.returned (.bool true)∧Below w w w':=by
 obtain⟨A,c,rfl,_⟩:=hu.elim fun d h=>h.form;obtain⟨A',c',rfl,_⟩:=hv.elim fun d h=>h.form
 obtain⟨cA,cn,cc,rfl⟩:∃cA cn cc,cv=.slice cA cn cc:=by obtain⟨A,c,h,_⟩:=hc;exact⟨A,_,c,h⟩
 obtain⟨DA,dc,rfl,_⟩:=id hd;obtain⟨W0,hW0⟩:∃W0,W0=w.alloc (Obj.cells #[.slice cA cn cc,a.k,a.t,.slice A a.ks.length c,.slice A' a.cs.length c',a.h] 28):=⟨_,rfl⟩;obtain⟨l0,hb0⟩:=L5 (cs:=[.slice cA cn cc,a.k,a.t,.slice A a.ks.length c,.slice A' a.cs.length c',a.h]) hW0
 have cb:=A4s a cols (.slice cA cn cc) (.slice A a.ks.length c) (.slice A' a.cs.length c') (.slice DA D.length dc) D 1000 W0 (hc.below hb0 (C3 _)) (hu.elim fun d h=>⟨d,h.below hb0 (C3 _)⟩) (hv.below hb0 (C3 _)) (hd.below hb0 (C3 _)) (by decide)
 have HG:=J1 (fun W (h:Below W0 W0 W)=>have hbw:=J5 hb0 h;J0 (hC.below hbw (C3 _)) (J0 (hW.below hbw (C3 _)) (J0 (hP.below hbw (C3 _)) (hT.below hbw))))
 have HH:=J1 (fun W (h:Below W0 W0 W)=>(show TrHang W (a,.slice A a.ks.length c,.slice A' a.cs.length c') from have hbw:=J5 hb0 h;⟨hu.elim fun d h=>⟨d,h.below hbw (C3 _)⟩,hv.below hbw (C3 _)⟩))
 have HCD:=J1 (fun W (h:Below W0 W0 W)=>have hbw:=J5 hb0 h;J0 (hc.below hbw (C3 _)) (hd.below hbw (C3 _)))
 have CA:=J1 (fun W (h:Below W0 W0 W)=>A4u W (HG.out W h).1 (HG.out W h).2.1);have HX:=J1 (fun W (h:Below W0 W0 W)=>l0.below h l0.lt);have x0:=l0.c 0 rfl;have x1:=l0.c 1 rfl;have x2:=l0.c 2 rfl;have x3:=l0.c 3 rfl;have x4:=l0.c 4 rfl;have x5:=l0.c 5 rfl;have HW:=J1 hW0;have HB0:=J1 hb0;have HWF:=J1 hwf;obtain⟨dn,hdn⟩:∃n,n=D.length:=⟨_,rfl⟩;have HDN:=J1 hdn;rw[←hdn]at cb ⊢;clear hW0 l0 hb0 hc hu hv hd hwf hC hW hP hT hdn;go_enter Tryz.func3,Tryz.ntmps3
 go_upto_region 1 with(fail)
 rw[←HW.out];go_wp2_with fail;refine cb.mono ?_;rintro e w1 ⟨bb,rfl,hbb,hb1⟩;clear cb x0 x1 x2 x3 x4 x5;cases bb
 ·clear hbb;obtain⟨w9,hw9⟩:∃w9,w9=w1:=⟨_,rfl⟩;have hb9:=hb1;rw[←hw9]at hb9 ⊢;clear hw9;have ca:=CA.out w9 hb9;have HB9:=J1 hb9;clear hb9;go_wp2_with fail;refine ca.mono ?_;rintro e w10 ⟨rfl,hb10⟩;have HB10:=J1 (J5 HB0.out (J5 HB9.out hb10));clear ca hb10;go_wp2_with fail;go_ret;exact⟨rfl,HB10.out⟩
 obtain⟨hs,hz,hm⟩:=hbb rfl
 have hs1:Tr.size a≤1000:=by omega
 have hok:=(Ex.sound_of hz).ok (M:=10000) HWF.out (by omega) hs1
 have HALL:=J1 (show ∀b∈Id.ways a,Ck.query cols b=0∧Ck.data cols b D=0∧Ex.Ok 10000 cols D b∧Bg.same Bg.cr (Ex.run cols b D) (Ex.run cols a D)=true from fun b hb=>Id.holds_all hz hok hb)
 have HRA:=J1 (A4E hz hok);have cr:=A4w a cols (.slice cA cn cc) (.slice A a.ks.length c) (.slice A' a.cs.length c') (.slice DA D.length dc) D w1 (HCD.out w1 hb1).1 (HH.out w1 hb1).1 (HH.out w1 hb1).2 (HCD.out w1 hb1).2 hs1 (HG.out w1 hb1).2.1 (HG.out w1 hb1).2.2.1 (HG.out w1 hb1).2.2.2 (fun _=>hok)
 replace cr:=cr.mono fun E w' ho=>(show ∃A2 m2 c2,E=Ending.returned (.tuple #[.slice A2 m2 c2,z9])∧Rws w' (.slice A2 m2 c2) (Ex.run cols a D)∧Below w1 w1 w' from by
  obtain⟨A2,c2,rfl,h5,h6⟩:=ho;rw[hz];exact⟨A2,_,c2,rfl,h5,h6⟩)
 rw[←HDN.out]at cr;have l:=HX.out w1 hb1;have x0:=l.c 0 rfl;have x1:=l.c 1 rfl;have x2:=l.c 2 rfl;have x3:=l.c 3 rfl;have x4:=l.c 4 rfl;have x5:=l.c 5 rfl;have HB1:=J1 hb1;have HS1:=J1 hs1;clear l hb1 hs hz hm hs1 hok hbb;go_wp2_with fail;refine cr.mono ?_;rintro e w2 ⟨A2,m2,c2,rfl,hR2,hb2⟩;have hb02:=J5 HB1.out hb2;have HR2:=J1 hR2;have cw:=A3t a A a.ks.length c A' a.cs.length c' w2 (HH.out w2 hb02) HS1.out (HG.out w2 hb02).1 (HG.out w2 hb02).2.1
 replace cw:=cw.mono fun E w' ho=>(show ∃LA n lc d,E=Ending.returned (.slice LA n lc)∧n=(Id.ways a).length∧TsOn (fun _=>True) d w' (.slice LA n lc) (Id.ways a)∧Below w2 w2 w' from by
  obtain⟨v,d,rfl,h1,h2⟩:=ho;obtain⟨LA,lc,rfl,_⟩:=h1.at_.form;exact⟨LA,_,lc,d,rfl,rfl,h1.keep (C3 _) fun k _ _=>⟨rfl,trivial⟩,h2⟩)
 have l:=HX.out w2 hb02;replace x1:=l.c 1 rfl;replace x2:=l.c 2 rfl;replace x3:=l.c 3 rfl;replace x4:=l.c 4 rfl;replace x5:=l.c 5 rfl;have HB2:=J1 hb02;clear cr hR2 hb2 hb02 l x0;go_wp2_with fail;refine cw.mono ?_;rintro e w4 ⟨LA,n,lc,d,rfl,hn,hts,hb4⟩;have hb04:=J5 HB2.out hb4;have HN:=J1 hn;have HTS:=J1 (fun W (h:Below w4 w4 W)=>(hts.keep (T':=fun _=>True) h.size fun k hk hlt=>⟨h.block k hlt,trivial⟩:TsOn (fun _=>True) d W (.slice LA n lc) (Id.ways a)));have HR4:=J1 (fun W (h:Below w4 w4 W)=>(HR2.out.below hb4 (C3 _)).below h (C3 _));have HB4:=J1 hb04;clear cw hn hts hb4 hb04 x1 x2 x3 x4 x5;go_wp2_with fail
 go_loopw [8] (fun i wr=>∃q:Nat,q≤n∧q≤40∧i=.int .i64 q∧Below w4 w4 wr) (fun i _=>40-(intOf i).toNat)
 case atStart=>exact⟨0,E3 _,E3 _,rfl,Below.refl _ _⟩
 case round =>
  obtain⟨q,hqn,hq4,rfl,hb⟩:=hrel
  by_cases hlt:q<n
  ·have i2:(q:Int)<(n:Int):=by omega
   by_cases hl4:q<40
   ·have i3:(q:Int)<40:=by omega
    obtain⟨x,hx⟩:∃x,(Id.ways a)[q]?=some x:=⟨(Id.ways a)[q]'(by have:=HN.out;omega),A8 _⟩
    obtain⟨hxq,hxz,hxo,hxs⟩:=HALL.out x (C8 hx);have hts:=HTS.out wr hb;rw[HN.out]at hts;obtain⟨_,b,o,s,ux,vx,_,hLA,_,hbl,hkx,hky,hcell,hps,hks⟩:=hts.one hx;clear hkx hky;have hbw:=J5 HB4.out hb;have hxh:TrHang wr (x,ux,vx):=⟨⟨_,hks.at_⟩,hps.elim fun e h=>⟨e,h.at_⟩⟩;obtain⟨B1,e0,A1,e1,f1,f2⟩:=hxh.form17;change ux=.slice B1 x.ks.length e0 at f1;change vx=.slice A1 x.cs.length e1 at f2;subst f1 f2;obtain⟨ad,had⟩:∃ad:Addr,ad=⟨b,o,s⟩:=⟨_,rfl⟩;rw[←had]at hcell hLA
    have habl:(ad.add (q*5)).block<wr.heap.size:=by rw[L7,had];exact hbl
    obtain⟨k0,k1,k2,k3,k4⟩:=hcell;have HK0:=J1 (fun W (h:Below wr wr W)=>(h.cell (p:=ad.add (q*5)) habl).trans k0);have HK1:=J1 (fun W (h:Below wr wr W)=>(h.cell (p:=⟨(ad.add (q*5)).block,(ad.add (q*5)).off+1,none⟩) habl).trans k1);have HK2:=J1 (fun W (h:Below wr wr W)=>(h.cell (p:=⟨(ad.add (q*5)).block,(ad.add (q*5)).off+2,none⟩) habl).trans k2);have HK3:=J1 (fun W (h:Below wr wr W)=>(h.cell (p:=⟨(ad.add (q*5)).block,(ad.add (q*5)).off+3,none⟩) habl).trans k3);have HK4:=J1 (fun W (h:Below wr wr W)=>(h.cell (p:=⟨(ad.add (q*5)).block,(ad.add (q*5)).off+4,none⟩) habl).trans k4);have HXH:=J1 hxh;have HXF:=J1 (J0 hxq (J0 hxz (J0 hxo hxs)));have HB:=J1 hb
    have hLA2:Value.slice LA n lc=.slice (some ad) n lc:=by rw[hLA]
    have hq7:(q:Int)+1≤9223372036854775807:=by omega
    have i1:(0:Int)≤(q:Int):=by omega
    subst hLA;clear hx hxq hxz hxo hxs hts hbl hps hks hxh had habl k0 k1 k2 k3 k4 hb hLA2
    go_upto_region 10 with(fail)
    have hS:=(Below.refl wr wr).drew
    refine wp_region_held_drew (S:=fun W=>Below wr wr W) (by kernel_rfl) hS (fun _=>?_)
    obtain⟨wD,hwD⟩:∃wD,wD=wr.drew:=⟨_,rfl⟩;rw[←hwD]at hS ⊢;clear hwD
    refine Q7 (l':=Array.replicate 9 false) (m':=9) (by kernel_rfl) (by kernel_rfl) ?_
    refine tk9 (i:=0) (v:=?v1) rfl (Or.inl ⟨by rfl,?hy1⟩) hS ?rest1
    case hy1=>(intro w hSw;go_simp;try with_reducible rfl)
    try simp only[Act.put,A7,C4,C5]
    refine tk9 (i:=1) (v:=?v2) rfl (Or.inl ⟨by rfl,?hy2⟩) hS ?rest2
    case hy2=>(intro w hSw;have y0:=(HX.out _ (J5 hbw hSw)).c 0 rfl;go_simp;try with_reducible rfl)
    try simp only[Act.put,A7,C4,C5]
    refine tk9 (i:=2) (v:=?v3) rfl (Or.inl ⟨by rfl,?hy3⟩) hS ?rest3
    case hy3=>(intro w hSw;go_simp;try with_reducible rfl)
    try simp only[Act.put,A7,C4,C5]
    refine tk9 (i:=3) (v:=?v4) rfl (Or.inl ⟨by rfl,?hy4⟩) hS ?rest4
    case hy4=>(intro w hSw;go_simp;try with_reducible rfl)
    try simp only[Act.put,A7,C4,C5]
    refine tk9 (i:=4) (v:=?v5) rfl (Or.inl ⟨by rfl,?hy5⟩) hS ?rest5
    case hy5=>(intro w hSw;go_simp;try with_reducible rfl)
    try simp only[Act.put,A7,C4,C5]
    refine tk9 (i:=5) (v:=?v6) rfl (Or.inl ⟨by rfl,?hy6⟩) hS ?rest6
    case hy6=>(intro w hSw;have y0:=HK0.out _ hSw;have y1:=HK1.out _ hSw;have y2:=HK2.out _ hSw;have y3:=HK3.out _ hSw;have y4:=HK4.out _ hSw;go_simp;try with_reducible rfl)
    try simp only[Act.put,A7,C4,C5]
    refine tk9 (i:=6) (v:=.agg #[.slice cA cn cc,x.k,x.t,.slice B1 x.ks.length e0,.slice A1 x.cs.length e1,x.h]) rfl (Or.inl ⟨by rfl,?_⟩) hS ?_
    ·(intro w hSw;go_simp;try rfl)
    try simp only[Act.put,A7,C4,C5]
    refine wpAnyH_ready (rs:=[7]) (by kernel_rfl) (by simp) ?_
    refine J3 rfl (fun K hK=>?_) J4
    rw[if_pos (by kernel_rfl)]
    go_simp;have HQ:=J1 (Lies.new wD 28 [(),z9,z9,(),(),false]);have hbZ:=J6 wD (Obj.cells #[(),z9,z9,(),(),false] 28);obtain⟨g7,hg7⟩:∃g,g=wD.heap.size:=⟨_,rfl⟩;rw[←hg7]at HQ ⊢
    have HG7:=J1 (show wr.heap.size≤g7 from by rw[hg7];exact hS.size)
    replace hS:=J5 hS hbZ;obtain⟨W,hW⟩:∃W,W=wD.alloc (Obj.cells #[(),z9,z9,(),(),false] 28):=⟨_,rfl⟩;rw[←hW]at hS HQ ⊢;clear hbZ hg7 hW;refine hK.out _ _ hS (fun _=>?_);clear hK K
    try simp only[Act.put,A7,C4,C5]
    refine wpAnyH_ready (rs:=[8]) (by kernel_rfl) (by simp) ?_
    refine J3 rfl (fun K hK=>?_) J4
    rw[if_pos (by kernel_rfl)]
    refine wp_store_mid 28 _ _ rfl g7 0 #[.slice cA cn cc,x.k,x.t,.slice B1 x.ks.length e0,.slice A1 x.cs.length e1,x.h] rfl rfl (Lies.there HQ.out rfl) (by kernel_rfl) (by rw[←G0];rfl) ?_
    rw[L6];obtain⟨W9,hW9⟩:∃W9,W9=setCells W g7 0 [.slice cA cn cc,x.k,x.t,.slice B1 x.ks.length e0,.slice A1 x.cs.length e1,x.h]:=⟨_,rfl⟩;rw[←hW9]
    have hk9:Keeps (fun k=>k≠g7) W W9:=⟨by rw[hW9];exact V6 _ _ _ _,by rw[hW9];exact S0 _ _ _ _,by rw[hW9];exact Q1 _ _ _ _,by rw[hW9,N0];exact C3 _,fun k _ hne=>by rw[hW9];exact M6 _ _ hne _ _ _⟩
    have hl9:Lies W9 g7 28 [.slice cA cn cc,x.k,x.t,.slice B1 x.ks.length e0,.slice A1 x.cs.length e1,x.h]:=by rw[hW9];exact HQ.out.put_all rfl
    replace hS:Below wr wr W9:=⟨hk9.os.trans hS.os,hk9.tape.trans hS.tape,hk9.output.trans hS.output,D5 hS.size hk9.size,fun k hk=>(hk9.same k (C9 hk hS.size) (by have:=HG7.out;omega)).trans (hS.block k hk)⟩
    clear hW9 hk9;refine hK.out _ _ hS (fun _=>?_);clear hK K;dsimp only[Act.put]
    refine wpAnyH_done (by kernel_rfl) ?_ _
    have hb9:=J5 hbw hS;have cx:=A4w x cols (.slice cA cn cc) (.slice B1 x.ks.length e0) (.slice A1 x.cs.length e1) (.slice DA D.length dc) D W9 (HCD.out W9 hb9).1 (HXH.out.below17 hS).1 (HXH.out.below17 hS).2 (HCD.out W9 hb9).2 HXF.out.2.2.1.size (HG.out W9 hb9).2.1 (HG.out W9 hb9).2.2.1 (HG.out W9 hb9).2.2.2 (fun _=>HXF.out.2.2.1)
    replace cx:=cx.mono fun E w' ho=>(show ∃A3 m3 c3,E=Ending.returned (.tuple #[.slice A3 m3 c3,z9])∧Rws w' (.slice A3 m3 c3) (Ex.run cols x D)∧Below W9 W9 w' from by
     obtain⟨A2,c2,rfl,h5,h6⟩:=ho;rw[HXF.out.2.1];exact⟨A2,_,c2,rfl,h5,h6⟩)
    rw[←HDN.out]at cx;have z0:=hl9.c 0 rfl;have z1:=hl9.c 1 rfl;have z2:=hl9.c 2 rfl;have z3:=hl9.c 3 rfl;have z4:=hl9.c 4 rfl;have z5:=hl9.c 5 rfl;have HL9:=J1 hl9;have HB9:=J1 hb9;have HS9:=J1 hS;clear hl9 hb9 hS hbw;go_wp2_with fail;refine cx.mono ?_;rintro e w11 ⟨A3,m3,c3,rfl,hR3,hb11⟩;have hb011:=J5 HB9.out hb11;have hbr:=J5 HS9.out hb11;have cq:=A1C x cols (.slice cA cn cc) (.slice B1 x.ks.length e0) (.slice A1 x.cs.length e1) w11 (HCD.out w11 hb011).1 (HXH.out.below17 hbr).1 (HXH.out.below17 hbr).2 HXF.out.2.2.1.size;rw[HXF.out.1]at cq;have l:=HL9.out.below hb11 HL9.out.lt;replace z0:=l.c 0 rfl;replace z1:=l.c 1 rfl;replace z2:=l.c 2 rfl;replace z3:=l.c 3 rfl;replace z4:=l.c 4 rfl;replace z5:=l.c 5 rfl;have HR3:=J1 hR3;have HBR:=J1 hbr;clear cx l hR3 hb11 hb011 hbr;go_wp2_with fail;refine cq.mono ?_;rintro e w12 ⟨rfl,hb12⟩;obtain⟨vs3,hv3⟩:=HR3.out.below hb12 (C3 _);obtain⟨vs2,hv2⟩:=HR4.out w12 (J5 HB.out (J5 HBR.out hb12));have HRX:=J1 (A4E HXF.out.2.1 HXF.out.2.2.1);have cs:=A5X (.slice A3 m3 c3) (.slice A2 m2 c2) vs3 vs2 (Ex.run cols x D) (Ex.run cols a D) w12 hv3 hv2 HRX.out.1 HRA.out.1 HRX.out.2 HRA.out.2;rw[HXF.out.2.2.2]at cs;have HB12:=J1 (J5 HB.out (J5 HBR.out hb12));clear cq hb12 hv3 hv2 z0 z1 z2 z3 z4 z5;go_wp2_with fail;refine cs.mono ?_;rintro e w13 ⟨rfl,hb13⟩;have HB13:=J1 (J5 HB12.out hb13);clear cs hb13;go_wp2_with fail
    go_roundw
    case rel=>exact⟨q+1,by omega,by omega,by go_num,HB13.out⟩
    case measure=>simp[intOf];omega
   ·have i3:¬((q:Int)<40):=by omega
    obtain⟨w9,hw9⟩:∃w9,w9=wr:=⟨_,rfl⟩;have hb9:=J5 HB4.out hb;rw[←hw9]at hb9 ⊢;clear hw9;have ca:=CA.out w9 hb9;have HB9:=J1 hb9;clear hb9;go_wp2_with fail;refine ca.mono ?_;rintro e w10 ⟨rfl,hb10⟩;have HB10:=J1 (J5 HB0.out (J5 HB9.out hb10));clear ca hb10;go_wp2_with fail;go_ret;exact⟨rfl,HB10.out⟩
  ·have i2:¬((q:Int)<(n:Int)):=by omega
   obtain⟨w9,hw9⟩:∃w9,w9=wr:=⟨_,rfl⟩;have hb9:=J5 HB4.out hb;rw[←hw9]at hb9 ⊢;clear hw9;have ca:=CA.out w9 hb9;have HB9:=J1 hb9;clear hb9;go_wp2_with fail;refine ca.mono ?_;rintro e w10 ⟨rfl,hb10⟩;have HB10:=J1 (J5 HB0.out (J5 HB9.out hb10));clear ca hb10;go_wp2_with fail;go_ret;exact⟨rfl,HB10.out⟩
end Go.Proofs.YtbddhkgbpjhhaaaGreatDoor
