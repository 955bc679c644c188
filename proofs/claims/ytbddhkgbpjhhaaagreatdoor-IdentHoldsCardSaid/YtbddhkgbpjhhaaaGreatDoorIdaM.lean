/-
  THE LAW's awake OF LAYER 17: what its calls tell.
-/
import Derived.Test.YtbddhkgbpjhhaaaGreatDoorIdcM
import Derived.Test.YtbddhkgbpjhhaaaGreatDoorIdlM
import Derived.Test.YtbddhkgbpjhhaaaGreatDoorGTreeB
import Derived.Test.YtbddhkgbpjhhaaaGreatDoorGTreeA
import Derived.Test.YtbddhkgbpjhhaaaGreatDoorIdrM
set_option maxHeartbeats 6400000
set_option maxRecDepth 100000
namespace Go.Proofs.YtbddhkgbpjhhaaaGreatDoor
open Go.RowKit Go.Sort
abbrev A98:Pd:=.mk ⟨2,0,1,⟨1,1,0,false,0⟩,⟨1,2,0,false,0⟩⟩ []
abbrev Y2:Tr:=.mk 2 0 false [A98] [twoTr 2,leafTr 2]
theorem A01:Tr.size Y2≤1000:=by
 unfold Y2 twoTr leafTr A9E A98
 simp[Tr.size,Tr.sizes,Pr.sizes,Pr.size]
theorem A3q {w:World} {g h:Nat} {u v:Value} (hg:g<w.heap.size) (t0:TrCell w ⟨g,0,none⟩ (twoTr 2) u v) (t1:TrCell w ⟨g,5,none⟩ (leafTr 2) (.slice none 0 0) (.slice none 0 0)) (ht:TrHang w (twoTr 2,u,v)) (hp:PdCell w ⟨h,0,none⟩ ⟨2,0,1,⟨1,1,0,false,0⟩,⟨1,2,0,false,0⟩⟩ (.slice none 0 0)) (hh:h<w.heap.size) :
  TrHang w (Y2,.slice (some ⟨g,0,none⟩) 2 2,.slice (some ⟨h,0,none⟩) 1 1):=by
 obtain⟨⟨d,hd⟩,hv⟩:=ht
 refine⟨⟨d+1,some ⟨g,0,none⟩,2,rfl,by simp[Tr.ks],fun j a hj=>?_⟩,1,(PsOn.oneRow (T:=fun _=>True) trivial hh hp).at_⟩
 match j,hj with
 | 0,hj =>
  cases hj
  exact⟨g,0,none,_,_,rfl,hg,by simpa[Addr.add]using t0,hv,hd⟩
 | 1,hj =>
  cases hj
  exact⟨g,0,none,_,_,rfl,hg,by simpa[Addr.add]using t1,⟨0,rfl,none,0,rfl⟩,(show TsAt 0 w (.slice none 0 0) [] from⟨rfl,none,0,rfl⟩).mono (E3 _)⟩
theorem A7n:(Id.doo 1 (twoTr 1)).isSome=true∧(Id.doo 1 (twoTr 1)).getD Id.zero=.mk 1 0 false [A9E] [leafTr 1,leafTr 0]:=⟨by kernel_rfl,by kernel_rfl⟩
theorem A7m:(Id.doo 1 (twoTr 2)).isSome=false∧(Id.doo 1 (twoTr 2)).getD Id.zero=Id.zero:=⟨by kernel_rfl,by kernel_rfl⟩
theorem A4Y:(Id.doo 2 Y2).isSome=true∧(Id.doo 2 Y2).getD Id.zero=.mk 2 0 false [A9E] [leafTr 0,.mk 2 0 false [A98] [leafTr 1,leafTr 2]]:=⟨by kernel_rfl,by kernel_rfl⟩
theorem A45:(Id.ways Y2).length=1:=by kernel_rfl
theorem A4O:Id.may 4 4 2=true∧Id.may 2 3 1=false:=⟨by decide,by decide⟩
theorem A8u {T:Nat→Prop} {w:World} {x:TrV} (h:TrOn T w x) {j:Nat} {a:Tr} (hj:x.1.ks[j]?=some a) :
  ∃b o s c u v,x.2.1=.slice (some ⟨b,o,s⟩) x.1.ks.length c∧TrCell w ((⟨b,o,s⟩:Addr).add (j*5)) a u v∧TrOn T w (a,u,v):=by
 obtain⟨d,hd⟩:=h.1;obtain⟨A,c,hA,_⟩:=hd.at_.form;rw[hA]at hd;obtain⟨e,b,o,s,u,v,_,rfl,_,_,_,_,hc,hp,hk⟩:=hd.one hj;exact⟨b,o,s,c,u,v,hA,hc,⟨e,hk⟩,hp⟩
theorem B0f (uA:Option Addr) (uN uC:Nat) (pA:Option Addr) (pN pC:Nat) (w:World) (h:TrHang w (twoTr 1,.slice uA uN uC,.slice pA pN pC)) (hC:Chgs w) (hW:Want w) :
  Calls Tryz.prog 13 #[.int .i64 1,.agg #[.int .i64 1,z9,.slice uA uN uC,.slice pA pN pC,false]] w fun E w'=>∃b o s c A n c2,E=.returned (.tuple #[.agg #[.int .i64 1,z9,.slice (some ⟨b,o,s⟩) 2 c,.slice A n c2,false],true])∧w'.cell? ⟨b,o+1,none⟩=some (.int .i64 1)∧Below w w w' :=
 (A2R 1 (by decide) (by decide) (twoTr 1) uA uN uC pA pN pC w h (A4z 1) hC hW).mono fun E w' ho=>by
  obtain⟨t,u,v,ht,rfl,hon,hb⟩:=ho;rw[A7n.2]at ht;subst ht;obtain⟨b,o,s,c,_,_,h1,h2,_⟩:=A8u hon (j:=0) (a:=leafTr 1) rfl;obtain⟨A,c2,h3,_⟩:=hon.2.elim fun d h=>h.at_.form;change u=.slice (some ⟨b,o,s⟩) 2 c at h1;change v=.slice A 1 c2 at h3;subst h1 h3
  exact⟨b,o,s,c,A,1,c2,by rw[A7n.1];rfl,by have:=h2.c1;simpa[Addr.add,Tr.t]using this,hb⟩
theorem B0e (uA:Option Addr) (uN uC:Nat) (pA:Option Addr) (pN pC:Nat) (w:World) (h:TrHang w (twoTr 2,.slice uA uN uC,.slice pA pN pC)) (hC:Chgs w) (hW:Want w) :
  Calls Tryz.prog 13 #[.int .i64 1,.agg #[.int .i64 2,z9,.slice uA uN uC,.slice pA pN pC,false]] w fun E w'=>∃B n c A m c2,E=.returned (.tuple #[.agg #[z9,z9,.slice B n c,.slice A m c2,false],false])∧Below w w w' :=
 (A2R 1 (by decide) (by decide) (twoTr 2) uA uN uC pA pN pC w h (A4z 2) hC hW).mono fun E w' ho=>by
  obtain⟨t,u,v,ht,rfl,hon,hb⟩:=ho;rw[A7m.2]at ht;subst ht;obtain⟨B,c,h1,_⟩:=hon.1.elim fun d h=>h.at_.form;obtain⟨A,c2,h3,_⟩:=hon.2.elim fun d h=>h.at_.form;change u=.slice B 0 c at h1;change v=.slice A 0 c2 at h3;subst h1 h3
  exact⟨B,_,c,A,_,c2,by rw[A7m.1];rfl,hb⟩
theorem B0d (uA:Option Addr) (uN uC:Nat) (pA:Option Addr) (pN pC:Nat) (w:World) (h:TrHang w (Y2,.slice uA uN uC,.slice pA pN pC)) (hC:Chgs w) (hW:Want w) :
  Calls Tryz.prog 13 #[.int .i64 2,.agg #[.int .i64 2,z9,.slice uA uN uC,.slice pA pN pC,false]] w fun E w'=>∃b o s c A n c2 b2 o2 s2 c3,E=.returned (.tuple #[.agg #[.int .i64 2,z9,.slice (some ⟨b,o,s⟩) 2 c,.slice A n c2,false],true])∧w'.cell? ⟨b,o+1,none⟩=some (.int .i64 0)∧w'.cell? ⟨b,o+5+2,none⟩=some (.slice (some ⟨b2,o2,s2⟩) 2 c3)∧w'.cell? ⟨b2,o2+1,none⟩=some (.int .i64 1)∧Below w w w' :=
 (A2R 2 (by decide) (by decide) Y2 uA uN uC pA pN pC w h A01 hC hW).mono fun E w' ho=>by
  obtain⟨t,u,v,ht,rfl,hon,hb⟩:=ho;rw[A4Y.2]at ht;subst ht;obtain⟨b,o,s,c,_,_,h1,h2,_⟩:=A8u hon (j:=0) (a:=leafTr 0) rfl;obtain⟨b',o',s',c',u2,v2,h1',h2',hon2⟩:=A8u hon (j:=1) (a:=.mk 2 0 false [A98] [leafTr 1,leafTr 2]) rfl;obtain⟨b2,o2,s2,c3,_,_,h5,h6,_⟩:=A8u hon2 (j:=0) (a:=leafTr 1) rfl;obtain⟨A,c2,h3,_⟩:=hon.2.elim fun d h=>h.at_.form;change u=.slice (some ⟨b,o,s⟩) 2 c at h1;change u=.slice (some ⟨b',o',s'⟩) 2 c' at h1';change u2=.slice (some ⟨b2,o2,s2⟩) 2 c3 at h5;change v=.slice A 1 c2 at h3;subst h1 h3 h5
  obtain⟨rfl,rfl,rfl,rfl⟩:b'=b∧o'=o∧s'=s∧c'=c:=by simpa[eq_comm,and_assoc]using h1'
  exact⟨b',o',s',c',A,1,c2,b2,o2,s2,c3,by rw[A4Y.1];rfl,by have:=h2.c1;simpa[Addr.add,Tr.t]using this,by have:=h2'.c2;simpa[Addr.add]using this,by have:=h6.c1;simpa[Addr.add,Tr.t]using this,hb⟩
theorem A9I (uA:Option Addr) (uN uC:Nat) (pA:Option Addr) (pN pC:Nat) (w:World) (h:TrHang w (Y2,.slice uA uN uC,.slice pA pN pC)) (hC:Chgs w) (hW:Want w) :
  Calls Tryz.prog 8 #[.agg #[.int .i64 2,z9,.slice uA uN uC,.slice pA pN pC,false]] w fun E w'=>∃A c,E=.returned (.slice A 1 c)∧Below w w w' :=
 (A3t Y2 uA uN uC pA pN pC w h A01 hC hW).mono fun E w' ho=>by
  obtain⟨v,d,rfl,hts,hb⟩:=ho;obtain⟨A,c,h1,_⟩:=hts.at_.form;rw[A45]at h1
  exact⟨A,c,by rw[h1],hb⟩
theorem TrHang.below17 {w w':World} {x:TrV} (h:TrHang w x) (hb:Below w w w'):TrHang w' x:=((h.on (T:=fun _=>True) fun _ _=>trivial).keep (T':=fun _=>True) hb.size fun k _ hlt=>⟨hb.block k hlt,trivial⟩).hang
theorem TrHang.form17 {w:World} {x:TrV} (h:TrHang w x):∃A c B e,x.2.1=.slice A x.1.ks.length c∧x.2.2=.slice B x.1.cs.length e:=by
 obtain⟨A,c,h1,_⟩:=h.1.elim fun d h=>h.form;obtain⟨B,e,h2,_⟩:=h.2.elim fun d h=>h.form;exact⟨A,c,B,e,h1,h2⟩
theorem A4u (w:World) (hC:Chgs w) (hW:Want w):Calls Tryz.prog 6 #[] w fun E w'=>E=.returned (.bool true)∧Below w w w':=by
 have ct:=A1j 1 w;have HG:=J1 (fun W (h:Below w w W)=>J0 (hC.below h (C3 _)) (hW.below h (C3 _)));clear hC hW;go_enter Tryz.func6,Tryz.ntmps6;go_wp2_with fail;refine ct.mono ?_;rintro e w1 ⟨u1,v1,rfl,hh,hb1⟩;obtain⟨A1,c1,B1,e1,h1,h2⟩:=hh.form17;change u1=.slice A1 2 c1 at h1;change v1=.slice B1 1 e1 at h2;subst h1 h2;have cd:=B0f _ _ _ _ _ _ w1 hh (HG.out _ hb1).1 (HG.out _ hb1).2;have HB1:=J1 hb1;clear ct hh hb1;go_wp2_with fail;refine cd.mono ?_;rintro e w2 ⟨b,o,s,c,A,n,c2,rfl,hx,hb2⟩;obtain⟨W3,hW3⟩:∃W3,W3=w2.alloc (Obj.cells #[.int .i64 1,z9,.slice (some ⟨b,o,s⟩) 2 c,.slice A n c2,false] 26):=⟨_,rfl⟩;obtain⟨l3,hb3⟩:=L5 (cs:=[.int .i64 1,z9,.slice (some ⟨b,o,s⟩) 2 c,.slice A n c2,false]) hW3
 have HX:=J1 (fun W (h:Below W3 W3 W)=>(show W.cell? ⟨b,o+1,none⟩=some (.int .i64 1)∧W.cell? ⟨w2.heap.size,2,none⟩=some (.slice (some ⟨b,o,s⟩) 2 c) from
  have hbb:=block_lt_of_cell hx
  ⟨((J5 hb3 h).cell (p:=⟨b,o+1,none⟩) hbb).trans hx,(l3.below h l3.lt).c 2 rfl⟩))
 have HB3:=J1 (J5 HB1.out (J5 hb2 hb3));have ct:=A1j 2 W3;have HW3:=J1 hW3;clear cd hx hb2 hW3 l3 hb3;go_wp2_with fail;rw[←HW3.out];refine ct.mono ?_;rintro e w4 ⟨u1,v1,rfl,hh,hb4⟩;obtain⟨A1,c1,B1,e1,h1,h2⟩:=hh.form17;change u1=.slice A1 2 c1 at h1;change v1=.slice B1 1 e1 at h2;subst h1 h2;have cd:=B0e _ _ _ _ _ _ w4 hh (HG.out _ (J5 HB3.out hb4)).1 (HG.out _ (J5 HB3.out hb4)).2;have HB4:=J1 hb4;clear ct hh hb4;go_wp2_with fail;refine cd.mono ?_;rintro e w5 ⟨B2,n2,c2',A2,m2,e2,rfl,hb5⟩;obtain⟨W6,hW6⟩:∃W6,W6=w5.alloc (Obj.cells #[z9,z9,.slice B2 n2 c2',.slice A2 m2 e2,false] 26):=⟨_,rfl⟩
 have HB6:=J1 (show Below W3 W3 W6 from J5 HB4.out (J5 hb5 (by rw[hW6];exact J6 _ _)))
 have ct:=A1j 2 W6;have HW6:=J1 hW6;clear cd hb5 hW6;go_wp2_with fail;rw[←HW6.out];refine ct.mono ?_;rintro e w7 ⟨u1,v1,rfl,hh,hb7⟩;obtain⟨A1,c1,B1,e1,h1,h2⟩:=hh.form17;change u1=.slice A1 2 c1 at h1;change v1=.slice B1 1 e1 at h2;subst h1 h2;have HH:=J1 hh;have HB7:=J1 (J5 HB6.out hb7);have cl:=A0R 2 w7;clear ct hh hb7;go_wp2_with fail;refine cl.mono ?_;rintro e w8 ⟨rfl,hb8⟩;have ce:=A2m 1 2 w8;have HB8:=J1 hb8;clear cl hb8;go_wp2_with fail;refine ce.mono ?_;rintro e w9 ⟨rfl,hb9⟩;obtain⟨W10,hW10⟩:∃W10,W10=w9.alloc (Obj.cells #[.int .i64 2,z9,.int .i64 1,.int .i64 1,.int .i64 1,z9,false,z9,.int .i64 1,.int .i64 2,z9,false,z9,()] 57):=⟨_,rfl⟩;obtain⟨l10,hb10⟩:=L5 (cs:=[.int .i64 2,z9,.int .i64 1,.int .i64 1,.int .i64 1,z9,false,z9,.int .i64 1,.int .i64 2,z9,false,z9,()]) hW10;have HB10:=J1 (J5 HB8.out (J5 hb9 hb10));have co:=A4L 2 (twoTr 2,.slice A1 2 c1,.slice B1 1 e1) (leafTr 2,(),.slice none 0 0) (some ⟨w9.heap.size,0,none⟩) 1 1 W10;have HL10:=J1 l10;have HW10:=J1 hW10;clear ce hb9 hW10 l10 hb10;go_wp2_with fail;rw[←HW10.out];refine co.mono ?_;rintro e w11 ⟨g,rfl,hg1,hg2,t0,t1,hb11⟩;have hh11:=A3q hg2 t0 t1 ((HH.out.below17 HB10.out).below17 hb11) (HL10.out.below hb11 HL10.out.lt).pd (C9 HL10.out.lt hb11.size);obtain⟨W12,hW12⟩:∃W12,W12=w11.alloc (Obj.cells #[.int .i64 2,z9,.slice (some ⟨g,0,none⟩) 2 2,.slice (some ⟨w9.heap.size,0,none⟩) 1 1,false] 26):=⟨_,rfl⟩;obtain⟨l12,hb12⟩:=L5 (cs:=[.int .i64 2,z9,.slice (some ⟨g,0,none⟩) 2 2,.slice (some ⟨w9.heap.size,0,none⟩) 1 1,false]) hW12;have HB12:=J1 (J5 HB7.out (J5 HB10.out (J5 hb11 hb12)));have hh12:=hh11.below17 hb12;have HL12:=J1 l12;have HW12:=J1 hW12;have HH12:=J1 hh12;have hbw:=J5 HB3.out HB12.out;have cd:=B0d _ _ _ _ _ _ W12 hh12 (HG.out _ hbw).1 (HG.out _ hbw).2;have HBW:=J1 hbw;have x0:=l12.c 0 rfl;have x1:=l12.c 1 rfl;have x2:=l12.c 2 rfl;have x3:=l12.c 3 rfl;have x4:=l12.c 4 rfl;clear co hg1 hg2 t0 t1 hb11 hh11 hW12 l12 hb12 hh12 hbw
 go_upto_region 4 with(fail)
 rw[←HW12.out];go_wp2_with fail;refine cd.mono ?_;rintro e w13 ⟨b3,o3,s3,c3,A3,n3,c4,b4,o4,s4,c5,rfl,hy0,hy1,hy2,hb13⟩;obtain⟨W14,hW14⟩:∃W14,W14=w13.alloc (Obj.cells #[.int .i64 2,z9,.slice (some ⟨b3,o3,s3⟩) 2 c3,.slice A3 n3 c4,false] 26):=⟨_,rfl⟩;obtain⟨l14,hb14⟩:=L5 (cs:=[.int .i64 2,z9,.slice (some ⟨b3,o3,s3⟩) 2 c3,.slice A3 n3 c4,false]) hW14;have HB14:=J1 (J5 hb13 hb14);have hx:=HX.out W14 (J5 HB12.out HB14.out);obtain⟨hx1,hx2⟩:=hx;have r2:=l14.c 2 rfl;have r0:=(hb14.cell (p:=⟨b3,o3+1,none⟩) (block_lt_of_cell hy0)).trans hy0;have r1:=(hb14.cell (p:=⟨b3,o3+5+2,none⟩) (block_lt_of_cell hy1)).trans hy1;have r3:=(hb14.cell (p:=⟨b4,o4+1,none⟩) (block_lt_of_cell hy2)).trans hy2;have HW14:=J1 hW14;have cm:=A2Q 4 4 2 W14 (HG.out _ (J5 HBW.out HB14.out)).1;rw[A4O.1]at cm;clear cd hy0 hy1 hy2 hb13 hW14 l14 hb14 x0 x1 x2 x3 x4
 go_upto_region 5 with(fail)
 rw[←HW14.out];go_wp2_with fail;refine cm.mono ?_;rintro e w15 ⟨rfl,hb15⟩;have HB15:=J1 (J5 HB14.out hb15);have cn:=A2Q 2 3 1 w15 (HG.out _ (J5 HBW.out HB15.out)).1;rw[A4O.2]at cn;clear cm hb15 r2 r0 r1 r3 hx1 hx2;go_wp2_with fail;refine cn.mono ?_;rintro e w16 ⟨rfl,hb16⟩;have HB16:=J1 (J5 HB15.out hb16);have hl:=HL12.out.below HB16.out HL12.out.lt;have x0:=hl.c 0 rfl;have x1:=hl.c 1 rfl;have x2:=hl.c 2 rfl;have x3:=hl.c 3 rfl;have x4:=hl.c 4 rfl;have hbw:=J5 HBW.out HB16.out;have cw:=A9I _ _ _ _ _ _ w16 (HH12.out.below17 HB16.out) (HG.out _ hbw).1 (HG.out _ hbw).2;have HBX:=J1 hbw;clear cn hb16 hl hbw;go_wp2_with fail;refine cw.mono ?_;rintro e w17 ⟨A9,c9,rfl,hb17⟩;have HB17:=J1 (J5 HBX.out hb17);clear cw hb17 x0 x1 x2 x3 x4;go_wp2_with fail;go_ret;exact⟨rfl,HB17.out⟩
end Go.Proofs.YtbddhkgbpjhhaaaGreatDoor
