/-
  LAID TOGETHER, BY PROGRAM, of: Predp, Predv, Predw, Predx, Camen, PsList.
-/
import Derived.Test.YtbddhkgbpjhhaaaGreatDoorGPred
import Derived.Test.YtbddhkgbpjhhaaaGreatDoorGTerms
import Derived.Test.YtbddhkgbpjhhaaaGreatDoorGLogs
import Derived.Lib.AppendZeros
import Derived.Deep.Cut
set_option maxHeartbeats 3200000
set_option maxRecDepth 100000
namespace Go.Proofs.YtbddhkgbpjhhaaaGreatDoor
open Go.RowKit Go.Sort
def Pairs (w:World) (v:Value) (l:List (Int × Int)):Prop :=
 ∃A c,v=.slice A l.length c∧l.length≤1000000∧∀(j:Nat) (x:Int × Int),l[j]?=some x→∃b o p,A=some ⟨b,o,p⟩∧b<w.heap.size∧w.cell? ((⟨b,o,p⟩:Addr).add (j*2))=some (.int .i64 x.1)∧w.cell? ⟨((⟨b,o,p⟩:Addr).add (j*2)).block,((⟨b,o,p⟩:Addr).add (j*2)).off+1,none⟩=some (.int .i64 x.2)
def SomePairs (w:World) (l:List (Int × Int)) (e:Ending) (w':World):Prop:=∃v,e=.returned v∧Pairs w' v l∧Below w w w'
theorem Tryz.infoPred:(Tryz.prog.info? 57).map (fun i=>(i.zero,i.size,i.bytes))=some (some (.agg #[z9,z9,z9,z9,z9,z9,false,z9,z9,z9,z9,false,z9,()]),14,128):=by kernel_rfl
theorem A5q (n:Nat) (w:World) (hn:n≤1000000) :
  Calls Tryz.prog 210 #[(),(n:Int)] w fun e w'=>∃v,e=.returned v∧w'.ownsRow w.heap.size 3 1 v 0 []∧Below w w w':=by
 obtain⟨i0,hi,hz0,hz1,hz2⟩:=info_parts Tryz.infoInt
 have h1:¬((n:Int)<0):=by omega
 have h2:wrap64 ((0:Int)-(0:Int))=0:=by unfold wrap64;omega
 have h3:wrap64 ((n:Int)-0)=(n:Int):=by unfold wrap64;omega
 by_cases h0:0<n
 ·have h4:(n:Int)>0:=by omega
  have hr:=fun ty=>Lib.run_append_nil_zeros (P:=Tryz.prog) w 22 3 ty 3 i0 (.int .i64 0) .i64 .i64 Tryz.underlying22 Tryz.underlying3 hi hz0 n h0 (by rw[hz1];decide) (by omega) (by rw[hz2];omega)
  obtain⟨G,hG⟩:∃G,G=grownCap w n 0 3:=⟨_,rfl⟩
  have hG1:G≤maxLen:=by rw[hG];exact grownCap_le_maxLen w n 0 _ (by unfold maxLen;omega)
  have hG2:n≤G:=by rw[hG];exact grownCap_ge w _ _ _
  have hG3:G≤9223372036854775807:=by unfold maxLen at hG1;omega
  rw[←hG]at hr;obtain⟨cur,hcur⟩:∃cur,cur=Builtin.zeroCells (.int .i64 0:Value).cells n++Builtin.zeroCells (.int .i64 0:Value).cells (G-n):=⟨_,rfl⟩
  have hcs:cur.size=G*1:=by
   rw[hcur,Array.size_append,size_zeroCells,size_zeroCells,show(.int .i64 0:Value).cells.size=1 from rfl];omega
  rw[←hcur]at hr;clear hcur hG;have how:=J1 (World.ownsRow_made (base:=w.heap.size) (size:=1) (e:=3) w.drew cur G (C3 _) hG1 hcs)
  have hbw:=J1 (show Below w w (w.drew.alloc (.cells cur 3)) from((Below.refl _ w).drew).alloc (C3 _) _)
  go_enter Tryz.func210,Tryz.ntmps210
  go_wp2_with (first | (at_builtin;refine Lib.wpList_append_run _ rfl _ _ _ _ rfl _ _ rfl rfl _ _ (hr _) ?_))
  go_ret;exact⟨_,rfl,how.out,hbw.out⟩
 ·obtain rfl:n=0:=by omega
  go_enter Tryz.func210,Tryz.ntmps210;go_wp2_with fail;go_ret;exact⟨_,rfl,World.ownsRow_nil _ _ _ _,Below.refl _ _⟩
theorem Rws.form {w:World} {v:Value} {rs:List (List Vl)} (h:Rws w v rs):∃A c,v=.slice A rs.length c:=by
 obtain⟨A,c,hv,_⟩:=h.at_;exact⟨A,c,hv⟩
theorem Lo.andI_sure {t:Int} (h:(t == 0||t == 1||t == 2)=true):Lo.andI [t]=t:=by
 have:t=0∨t=1∨t=2:=by simpa[or_assoc]using h
 rcases this with rfl | rfl | rfl <;> decide
theorem Lo.andI_none {t:Int} (h:(t == 0||t == 1||t == 2)=false):Lo.andI [t]=1:=by
 have:t≠0∧t≠2:=by simp at h;omega
 exact Lo.andI_one (by simp;omega) (by simp;omega)
theorem A5l (b:Nat) (f:Pf) (A:Option Addr) (n c:Nat) (v:Value) (r:Int) (w:World) (hc:w.cell? ⟨b,0,none⟩=some v)
  (hs:∀W,Below w w W→Calls Tryz.prog 172 #[.agg #[f.k,f.u,f.o,f.a.k,f.a.t,f.a.c,f.a.z,f.a.n,f.b.k,f.b.t,f.b.c,f.b.z,f.b.n,.slice A n c],v] W fun e w'=>e=.returned (.int .i64 r)∧Below W W w') :
  Calls Tryz.prog 204 #[.agg #[f.k,f.u,f.o,f.a.k,f.a.t,f.a.c,f.a.z,f.a.n,f.b.k,f.b.t,f.b.c,f.b.z,f.b.n,.slice A n c],.pointer (some ⟨b,0,none⟩)] w fun e w'=>e=.returned (.int .i64 r)∧Below w w w':=by
 obtain⟨W0,hW0⟩:∃W0,W0=w.alloc (Obj.cells #[f.k,f.u,f.o,f.a.k,f.a.t,f.a.c,f.a.z,f.a.n,f.b.k,f.b.t,f.b.c,f.b.z,f.b.n,.slice A n c] 57):=⟨_,rfl⟩;obtain⟨l0,p0,hb0⟩:=V9 hW0;have hbb:b<w.heap.size:=World.block_lt_of_cell? w _ hc;have hc0:W0.cell? ⟨b,0,none⟩=some v:=(hb0.cell (p:=⟨b,0,none⟩) hbb).trans hc;have cs:=hs W0 hb0;have HW:=J1 hW0;obtain⟨x0,x1,x2,x3,x4,x5,x6,x7,x8,x9,x10,x11,x12,x13⟩:=p0;clear hW0 l0 hc hs hbb;go_enter Tryz.func204,Tryz.ntmps204
 go_upto_region 1 with(fail)
 rw[←HW.out];go_wp2_with fail;refine cs.mono ?_;rintro e w2 ⟨rfl,hb2⟩;clear cs x0 x1 x2 x3 x4 x5 x6 x7 x8 x9 x10 x11 x12 x13;go_wp2_with fail;go_ret;exact⟨rfl,J5 hb0 hb2⟩
theorem A6H (d:Nat) (ih:∀e,e<d→∀(f:Pf) (u:Value) (ps:List Pd) (v:Value) (rs:List (List Vl)) (w:World),PsAt e w u ps→Pr.sizes ps≤1000→Rws w v rs→Want w→Calls Tryz.prog 172 #[.agg #[f.k,f.u,f.o,f.a.k,f.a.t,f.a.c,f.a.z,f.a.n,f.b.k,f.b.t,f.b.c,f.b.z,f.b.n,u],v] w fun e w'=>e=.returned (.int .i64 (Pr.of rs (.mk f ps)))∧Below w w w') (b:Nat) (u:Value) (ps:List Pd) (v:Value) (rs:List (List Vl)) (w:World) (hu:PsAt d w u ps) (hsz:Pr.sizes ps≤1000) (hv:Rws w v rs) (hW:Want w) (hc:w.cell? ⟨b,0,none⟩=some v) :
  Calls Tryz.prog 203 #[u,.func (.func 204) #[] #[.pointer (some ⟨b,0,none⟩)]] w fun e w'=>∃r,e=.returned r∧w'.ownsRow w.heap.size 3 1 r ps.length ((ps.map (Pr.of rs)).map (Value.int .i64))∧Below w w w':=by
 obtain⟨i0,hi,hz0,hz1,hz2⟩:=info_parts Tryz.infoInt;have HU:=J1 hu;have HV:=J1 hv;have HWa:=J1 hW;have HC:=J1 hc;have IH:=J1 ih;have HZ:=J1 hsz;obtain⟨A,c,rfl,hl⟩:=hu.form;have hn1:=Pr.sizes_length ps;obtain⟨n,hn⟩:∃n,n=ps.length:=⟨_,rfl⟩;rw[←hn]at hl HU hn1 ⊢
 have hn2:n≤1000:=by omega
 have HN:=J1 hn
 have cg:=A5q n w (by omega)
 clear hu hv hW hc ih hsz hn1 hn;go_enter Tryz.func203,Tryz.ntmps203;go_wp2_with fail;refine cg.mono ?_;rintro e w1 ⟨v1,rfl,hown1,hb1⟩;have HO:=J1 hown1;clear cg hown1;go_wp2_with fail
 go_loopw [5,13] (fun s i wr=>∃(q:Nat),q≤n∧i=.int .i64 q∧wr.ownsRow w.heap.size 3 1 s q (((ps.take q).map (Pr.of rs)).map (Value.int .i64))∧Below w w wr) (fun _ i _=>n-(intOf i).toNat)
 case atStart=>exact⟨0,E3 _,rfl,HO.out,hb1⟩
 case round =>
  obtain⟨q,hq,rfl,hown,hb⟩:=hrel
  by_cases hlt:q<n
  ·obtain⟨p,gp⟩:∃p,ps[q]?=some p:=⟨ps[q]'(by have:=HN.out;omega),A8 _⟩
   have hu:=HU.out;rw[HN.out]at hu;obtain⟨e,b',o,s,v',he,rfl,_,hx⟩:=hu.at_ gp;obtain⟨hcell,hps⟩:=hx wr hb;obtain⟨A2,c2,rfl,_⟩:=hps.form;have hb3:Below w w (wr.alloc (Obj.cells #[p.f.k,p.f.u,p.f.o,p.f.a.k,p.f.a.t,p.f.a.c,p.f.a.z,p.f.a.n,p.f.b.k,p.f.b.t,p.f.b.c,p.f.b.z,p.f.b.n,.slice A2 p.ps.length c2] 57)):=J5 hb (J6 _ _);have hown2:(wr.alloc (Obj.cells #[p.f.k,p.f.u,p.f.o,p.f.a.k,p.f.a.t,p.f.a.c,p.f.a.z,p.f.a.n,p.f.b.k,p.f.b.t,p.f.b.c,p.f.b.z,p.f.b.n,.slice A2 p.ps.length c2] 57)).ownsRow _ _ _ _ _ _:=hown.alloc _;obtain⟨x,hx1⟩:∃x,x=Pr.of rs p:=⟨_,rfl⟩;have hcb:(wr.alloc (Obj.cells #[p.f.k,p.f.u,p.f.o,p.f.a.k,p.f.a.t,p.f.a.c,p.f.a.z,p.f.a.n,p.f.b.k,p.f.b.t,p.f.b.c,p.f.b.z,p.f.b.n,.slice A2 p.ps.length c2] 57)).cell? ⟨b,0,none⟩=some v:=(hb3.cell (p:=⟨b,0,none⟩) (World.block_lt_of_cell? w _ HC.out)).trans HC.out
   have cs:=A5l b p.f A2 p.ps.length c2 v x _ hcb (fun W h=>by
    have hW3:=J5 hb3 h
    have k:=IH.out e he p.f _ p.ps v rs W ((hx W hW3).2) (by have:=Pr.sizes_down gp;have:=HZ.out;omega) (HV.out.below hW3 (C3 _)) (HWa.out.below hW3 (C3 _))
    rw[Pr.of_mk,←hx1]at k;exact k)
   have ht:=Pr.ofs_take (rs:=rs) gp;rw[←hx1]at ht;have HT:=J1 ht;obtain⟨x0,x1,x2,x3,x4,x5,x6,x7,x8,x9,x10,x11,x12,x13⟩:=hcell;clear gp hx hps hu hx1 ht hcb hown;go_wp2_with fail;refine cs.mono ?_;rintro e w2 ⟨rfl,hb2⟩;have hb':=J5 hb3 hb2;have hown3:=A0m hown2 hb2;clear cs x0 x1 x2 x3 x4 x5 x6 x7 x8 x9 x10 x11 x12 x13 hb2 hb3 hown2
   go_wp2_with (first
    | (at_builtin;refine wpList_append_own _ rfl _ _ 22 rfl w.heap.size 3 i0 (.int .i64 0) 1 8 Tryz.underlying22 hi hz0 hz1 hz2 rfl (by decide) _ _ _ rfl (hown3.alloc _) ⟨w2.heap.size,0,none⟩ 1 1 [x] rfl rfl ?c1 ?c2 ?c3 ?c4 ?c5 ?_))
   case c1=>exact cell_one_new _ _ _
   case c2=>simp[Value.oneCell']
   case c3=>unfold maxLen;omega
   case c4=>omega
   case c5=>have:=hb'.size;simp;omega
   intro v1 w3 hown4 hgrow _
   have hb5:Below w w w3:=(hb'.alloc hb'.size _).grown hgrow (by have:=hb'.size;simp;omega) (fun k hk=>(hown3.lt k hk).1)
   have hown5:w3.ownsRow w.heap.size 3 1 v1 (q+1) (((ps.take (q+1)).map (Pr.of rs)).map (Value.int .i64)):=by rw[HT.out];simpa using hown4
   clear hown4 hgrow hown3 hb';go_wp2_with fail
   go_roundw
   case rel=>exact⟨q+1,by omega,by go_num,hown5,hb5⟩
   case measure=>simp[intOf];omega
  ·obtain rfl:n=q:=by omega
   rw[C7 (by have:=HN.out;omega)]at hown
   have HOW:=J1 hown;clear hown;go_wp2_with fail;go_ret;exact⟨_,rfl,HOW.out,hb⟩
theorem A19 (d:Nat) (ih:∀e,e<d→∀(f:Pf) (u:Value) (ps:List Pd) (v:Value) (rs:List (List Vl)) (w:World),PsAt e w u ps→Pr.sizes ps≤1000→Rws w v rs→Want w→Calls Tryz.prog 172 #[.agg #[f.k,f.u,f.o,f.a.k,f.a.t,f.a.c,f.a.z,f.a.n,f.b.k,f.b.t,f.b.c,f.b.z,f.b.n,u],v] w fun e w'=>e=.returned (.int .i64 (Pr.of rs (.mk f ps)))∧Below w w w') (u:Value) (ps:List Pd) (v:Value) (rs:List (List Vl)) (w:World) (hu:PsAt d w u ps) (hsz:Pr.sizes ps≤1000) (hv:Rws w v rs) (hW:Want w) :
  Calls Tryz.prog 194 #[u,v] w fun e w'=>∃r,e=.returned r∧Sl w' r ((ps.map (Pr.of rs)).map (Value.int .i64))∧Below w w w':=by
 obtain⟨B,c',rfl⟩:=hv.form;obtain⟨W0,hW0⟩:∃W0,W0=w.alloc (Obj.cells #[.slice B rs.length c'] 33):=⟨_,rfl⟩;obtain⟨l0,hb0⟩:=L5 (cs:=[.slice B rs.length c']) hW0;have cs:=A6H d ih w.heap.size u ps _ rs W0 (hu.below hb0 (C3 _)) hsz (hv.below hb0 (C3 _)) (hW.below hb0 (C3 _)) (l0.c 0 rfl);obtain⟨A,c,rfl,hl⟩:=hu.form;have HW:=J1 hW0;clear hW0 l0 ih hu hv hW hsz;go_enter Tryz.func194,Tryz.ntmps194
 go_upto_region 1 with(fail)
 rw[←HW.out];go_wp2_with fail;refine cs.mono ?_;rintro e w2 ⟨r,rfl,hown,hb2⟩;have HO:=J1 (Sl.own hown);clear cs hown;go_wp2_with fail;go_ret;exact⟨r,rfl,HO.out,J5 hb0 hb2⟩
theorem A6L (d:Nat) (ih:∀e,e<d→∀(f:Pf) (u:Value) (ps:List Pd) (v:Value) (rs:List (List Vl)) (w:World),PsAt e w u ps→Pr.sizes ps≤1000→Rws w v rs→Want w→Calls Tryz.prog 172 #[.agg #[f.k,f.u,f.o,f.a.k,f.a.t,f.a.c,f.a.z,f.a.n,f.b.k,f.b.t,f.b.c,f.b.z,f.b.n,u],v] w fun e w'=>e=.returned (.int .i64 (Pr.of rs (.mk f ps)))∧Below w w w') (u:Value) (ps:List Pd) (v:Value) (rs:List (List Vl)) (w:World) (hu:PsAt d w u ps) (hsz:Pr.sizes ps≤1000) (hv:Rws w v rs) (hW:Want w) :
  Calls Tryz.prog 193 #[u,v] w fun e w'=>e=.returned (.int .i64 (Lo.andI (ps.map (Pr.of rs))))∧Below w w w':=by
 have cs:=A19 d ih u ps v rs w hu hsz hv hW;obtain⟨B,c',rfl⟩:=hv.form;obtain⟨A,c,rfl,hl⟩:=hu.form
 have HN:=J1 (show(ps.map (Pr.of rs)).length≤9223372036854775807 by rw[E0];exact hl)
 clear ih hu hv hW hsz hl;go_enter Tryz.func193,Tryz.ntmps193;go_wp2_with fail;refine cs.mono ?_;rintro e w2 ⟨r,rfl,hsl,hb2⟩;have ca:=A2L r (ps.map (Pr.of rs)) w2 hsl HN.out;clear cs hsl;go_wp2_with fail;refine ca.mono ?_;rintro e w3 ⟨rfl,hb3⟩;clear ca;go_wp2_with fail;go_ret;exact⟨rfl,J5 hb2 hb3⟩
theorem A7K (y:Bool) (m:Int) (w:World):(Instr.field 53 (.agg #[y,m]) 0).run Tryz.prog w=.ok (.bool y) w:=by kernel_rfl
theorem A8Y (d:Nat):∀(f:Pf) (u:Value) (ps:List Pd) (v:Value) (rs:List (List Vl)) (w:World),PsAt d w u ps→Pr.sizes ps≤1000→Rws w v rs→Want w→Calls Tryz.prog 172 #[.agg #[f.k,f.u,f.o,f.a.k,f.a.t,f.a.c,f.a.z,f.a.n,f.b.k,f.b.t,f.b.c,f.b.z,f.b.n,u],v] w fun e w'=>e=.returned (.int .i64 (Pr.of rs (.mk f ps)))∧Below w w w':=by
 induction d using Nat.strongRecOn with
 | ind d ih =>
 intro f u ps v rs w hu hsz hv hW;obtain⟨A,c,rfl,hl⟩:=hu.form;obtain⟨W0,hW0⟩:∃W0,W0=w.alloc (Obj.cells #[f.k,f.u,f.o,f.a.k,f.a.t,f.a.c,f.a.z,f.a.n,f.b.k,f.b.t,f.b.c,f.b.z,f.b.n,.slice A ps.length c] 57):=⟨_,rfl⟩;obtain⟨l0,p0,hb0⟩:=V9 hW0;have hu0:=hu.below hb0 (C3 _);have hv0:=hv.below hb0 (C3 _);have hw0:=hW.below hb0 (C3 _);obtain⟨B,c',rfl⟩:=hv.form;have HW:=J1 hW0;have HE:=J1 (Pr.of_eq rs f ps);obtain⟨res,hres⟩:∃res,res=Pr.of rs (.mk f ps):=⟨_,rfl⟩;rw[←hres]at HE ⊢
 by_cases h1:f.k=1
 ·have e1:(f.k == 1)=true:=by simpa using h1
  have cr:=A2i f.u
  obtain⟨r,hr⟩:∃r,r=(f.u == 0||f.u == 1||f.u == 2):=⟨_,rfl⟩
  have hm:=J1 (show res=(if r then f.u else 1) by
   rw[HE.out,Pr.made_1 h1];cases r
   ·exact Lo.andI_none hr.symm
   ·exact Lo.andI_sure hr.symm)
  rw[←hr]at cr;obtain⟨x0,x1,x2,x3,x4,x5,x6,x7,x8,x9,x10,x11,x12,x13⟩:=p0;clear hu hu0 hv hv0 hW hw0 ih l0 hW0 hr h1 hres;go_enter Tryz.func172,Tryz.ntmps172
  go_upto_region 1 with(fail)
  rw[←HW.out];cases r
  ·go_wp2_with (first | (with_reducible refine(cr _).mono ?_;rintro e w3 ⟨rfl,rfl⟩))
   go_ret;exact⟨M1 hm.out.symm,hb0⟩
  ·go_wp2_with (first | (with_reducible refine(cr _).mono ?_;rintro e w3 ⟨rfl,rfl⟩))
   go_ret;exact⟨M1 hm.out.symm,hb0⟩
 have e1:(f.k == 1)=false:=by simpa using h1
 by_cases h2:f.k=2
 ·have e2:(f.k == 2)=true:=by simpa using h2
  obtain⟨y,m,hym⟩:∃y m,Te.val ⟨f.a.k,f.a.t,f.a.c,f.a.z,f.a.n⟩ rs=(y,m):=⟨_,_,rfl⟩;obtain⟨y2,m2,hym2⟩:∃y m,Te.val ⟨f.b.k,f.b.t,f.b.c,f.b.z,f.b.n⟩ rs=(y,m):=⟨_,_,rfl⟩
  have hm:=J1 (show res=Va.comp f.o y m y2 m2 by rw[HE.out,Pr.made_2 h2,show Te.val f.a rs=(y,m) from hym,show Te.val f.b rs=(y2,m2) from hym2])
  have c1:=N7 (W0:=W0) fun W h=>A2u f.a.k f.a.t f.a.c f.a.z f.a.n _ rs W (hv0.below h (C3 _));have c2:=N7 (W0:=W0) fun W h=>A2u f.b.k f.b.t f.b.c f.b.z f.b.n _ rs W (hv0.below h (C3 _));have c3:=N7 (W0:=W0) fun W h=>A1P f.o y y2 m m2 W (hw0.below h (C3 _));rw[hym]at c1;rw[hym2]at c2;dsimp only at c1 c2;have k0:=p0.c0;have HP:=J1 p0;clear hu hu0 hv hv0 hW hw0 ih l0 hW0 h1 h2 hres hym hym2 p0;go_enter Tryz.func172,Tryz.ntmps172
  go_upto_region 1 with(fail)
  rw[←HW.out];go_wp2_with fail;have g2:=cell_regrown HP.out.c2;have g3:=cell_regrown HP.out.c3;have g4:=cell_regrown HP.out.c4;have g5:=cell_regrown HP.out.c5;have g6:=cell_regrown HP.out.c6;have g7:=cell_regrown HP.out.c7;have g8:=cell_regrown HP.out.c8;have g9:=cell_regrown HP.out.c9;have g10:=cell_regrown HP.out.c10;have g11:=cell_regrown HP.out.c11;have g12:=cell_regrown HP.out.c12;clear k0
  refine wp_region_quiet_below (by kernel_rfl) (by kernel_rfl) ?_
  repeat(go_big_quiet_step (with_reducible first | exact c1 _ _ | exact c2 _ _ | exact c3 _ _))
  refine wpQuiet_nil ?_;intro _ hw';obtain⟨⟨dq,osq⟩,hw''⟩:=hw';subst hw'';have hbz:=J5 hb0 (below_regrown W0 dq osq);clear g2 g3 g4 g5 g6 g7 g8 g9 g10 g11 g12 c1 c2 c3;generalize grow (redrawn W0 dq) osq=wz at hbz ⊢;go_wp2_with fail;go_ret;exact⟨M1 hm.out.symm,hbz⟩
 have e2:(f.k == 2)=false:=by simpa using h2
 by_cases h3:f.k=3
 ·have e3:(f.k == 3)=true:=by simpa using h3
  obtain⟨y,m,hym⟩:∃y m,Te.val ⟨f.a.k,f.a.t,f.a.c,f.a.z,f.a.n⟩ rs=(y,m):=⟨_,_,rfl⟩
  have hm:=J1 (show res=(if y then 2 else 0) by rw[HE.out,Pr.made_3 h3,show Te.val f.a rs=(y,m) from hym])
  have c1:=A2u f.a.k f.a.t f.a.c f.a.z f.a.n _ rs W0 hv0;rw[hym]at c1;dsimp only at c1;have c2:=A35 y;obtain⟨rr,hrr⟩:∃rr,rr=(if y then(2:Int)else 0):=⟨_,rfl⟩
  have hm:=J1 (show res=rr by rw[hm.out,hrr])
  rw[←hrr]at c2;have hvn:=A7K y m;obtain⟨x0,x1,x2,x3,x4,x5,x6,x7,x8,x9,x10,x11,x12,x13⟩:=p0;clear hu hu0 hv hv0 hW hw0 ih l0 hW0 h1 h2 h3 hres hym hrr;go_enter Tryz.func172,Tryz.ntmps172
  go_upto_region 1 with(fail)
  rw[←HW.out];go_wp2_with fail;refine c1.mono ?_;rintro e w2 ⟨rfl,hb2⟩;clear c1 x0 x1 x2 x3 x4 x5 x6 x7 x8 x9 x10 x11 x12 x13;go_wp2_with fail;refine(c2 _).mono ?_;rintro e w3 ⟨rfl,rfl⟩;clear c2;go_wp2_with fail;go_ret;exact⟨M1 hm.out.symm,J5 hb0 hb2⟩
 have e3:(f.k == 3)=false:=by simpa using h3
 by_cases h4:f.k=4
 ·have e4:(f.k == 4)=true:=by simpa using h4
  have hm:=J1 (HE.out.trans (Pr.made_4 h4));have cs:=A6L d ih _ ps _ rs W0 hu0 hsz hv0 hw0;obtain⟨x0,x1,x2,x3,x4,x5,x6,x7,x8,x9,x10,x11,x12,x13⟩:=p0;clear hu hu0 hv hv0 hW hw0 ih l0 hW0 h1 h2 h3 h4 hres;go_enter Tryz.func172,Tryz.ntmps172
  go_upto_region 1 with(fail)
  rw[←HW.out];go_wp2_with fail;refine cs.mono ?_;rintro e w2 ⟨rfl,hb2⟩;clear cs x0 x1 x2 x3 x4 x5 x6 x7 x8 x9 x10 x11 x12 x13;go_wp2_with fail;go_ret;exact⟨M1 hm.out.symm,J5 hb0 hb2⟩
 have e4:(f.k == 4)=false:=by simpa using h4
 by_cases h5:f.k=5
 ·have e5:(f.k == 5)=true:=by simpa using h5
  have hm:=J1 (HE.out.trans (Pr.made_5 h5));have cs:=A19 d ih _ ps _ rs W0 hu0 hsz hv0 hw0
  have HN:=J1 (show(ps.map (Pr.of rs)).length≤9223372036854775807 by rw[E0];exact hl)
  obtain⟨x0,x1,x2,x3,x4,x5,x6,x7,x8,x9,x10,x11,x12,x13⟩:=p0;clear hu hu0 hv hv0 hW hw0 ih l0 hW0 h1 h2 h3 h4 h5 hres;go_enter Tryz.func172,Tryz.ntmps172
  go_upto_region 1 with(fail)
  rw[←HW.out];go_wp2_with fail;refine cs.mono ?_;rintro e w2 ⟨r,rfl,hsl,hb2⟩;have ca:=A34 r (ps.map (Pr.of rs)) w2 hsl HN.out;clear cs x0 x1 x2 x3 x4 x5 x6 x7 x8 x9 x10 x11 x12 x13 hsl;go_wp2_with fail;refine ca.mono ?_;rintro e w3 ⟨rfl,hb3⟩;clear ca;go_wp2_with fail;go_ret;exact⟨M1 hm.out.symm,J5 hb0 (J5 hb2 hb3)⟩
 have e5:(f.k == 5)=false:=by simpa using h5
 by_cases h6:f.k=6
 ·have e6:(f.k == 6)=true:=by simpa using h6
  by_cases hn0:ps.length=0
  ·have hps:ps=[]:=D6 hn0
   have hm:=J1 (show res=1 by rw[HE.out,hps];exact Pr.made_6n h6)
   rw[hn0]at HW p0 ⊢;obtain⟨x0,x1,x2,x3,x4,x5,x6,x7,x8,x9,x10,x11,x12,x13⟩:=p0;clear hu hu0 hv hv0 hW hw0 ih l0 hW0 h1 h2 h3 h4 h5 h6 hres hps;go_enter Tryz.func172,Tryz.ntmps172
   go_upto_region 1 with(fail)
   rw[←HW.out];go_wp2_with fail;go_ret;exact⟨M1 hm.out.symm,hb0⟩
  ·obtain⟨p,ps',hps⟩:∃p ps',ps=p::ps':=by
    cases h:ps with
    | nil=>rw[h]at hn0;exact absurd rfl hn0
    | cons p r=>exact⟨p,r,rfl⟩
   obtain⟨x,hx1⟩:∃x,x=Pr.of rs p:=⟨_,rfl⟩
   have hm:=J1 (show res=Lo.notI x by rw[HE.out,hps,hx1];exact Pr.made_6c h6)
   have gp:ps[0]?=some p:=by rw[hps];rfl
   obtain⟨e,b,o,s,v',he,rfl,_,hx⟩:=hu0.at_ gp;obtain⟨hcell,hpp⟩:=hx W0 (Below.refl _ _)
   have cs:=ih e he p.f v' p.ps _ rs W0 hpp (by have:=Pr.sizes_down gp;omega) hv0 hw0
   rw[Pr.of_mk,←hx1]at cs;have cn:=A2J x;obtain⟨n,hn⟩:∃n,n=ps.length:=⟨_,rfl⟩
   have hn1:0<n:=by omega
   have x0:=p0.c0;have x13:=p0.c13;rw[←hn]at hl HW x13 ⊢;have hcell:PdCell W0 ⟨b,o,s⟩ p.f v':=hcell;obtain⟨y0,y1,y2,y3,y4,y5,y6,y7,y8,y9,y10,y11,y12,y13⟩:=hcell;clear hu hu0 hv hv0 hW hw0 ih l0 hW0 h1 h2 h3 h4 h5 h6 hres hx hpp gp hps hn p0 hx1 hn0;go_enter Tryz.func172,Tryz.ntmps172
   go_upto_region 1 with(fail)
   rw[←HW.out];go_wp2_with fail;refine cs.mono ?_;rintro e w2 ⟨rfl,hb2⟩;clear cs x0 x13 y0 y1 y2 y3 y4 y5 y6 y7 y8 y9 y10 y11 y12 y13;go_wp2_with fail;refine(cn _).mono ?_;rintro e w3 ⟨rfl,rfl⟩;clear cn;go_wp2_with fail;go_ret;exact⟨M1 hm.out.symm,J5 hb0 hb2⟩
 have e6:(f.k == 6)=false:=by simpa using h6
 have hm:=J1 (show res=1 by rw[HE.out];exact Pr.made_no h1 h2 h3 h4 h5 h6)
 obtain⟨x0,x1,x2,x3,x4,x5,x6,x7,x8,x9,x10,x11,x12,x13⟩:=p0;clear hu hu0 hv hv0 hW hw0 ih l0 hW0 h1 h2 h3 h4 h5 h6 hres;go_enter Tryz.func172,Tryz.ntmps172
 go_upto_region 1 with(fail)
 rw[←HW.out];go_wp2_with fail;go_ret;exact⟨M1 hm.out.symm,hb0⟩
theorem A9f (d:Nat) (f:Pf) (u:Value) (ps:List Pd) (v:Value) (rs:List (List Vl)) (w:World) (hu:PsAt d w u ps) (hsz:Pr.sizes ps≤1000) (hv:Rws w v rs) (hW:Want w) :
  Calls Tryz.prog 172 #[.agg #[f.k,f.u,f.o,f.a.k,f.a.t,f.a.c,f.a.z,f.a.n,f.b.k,f.b.t,f.b.c,f.b.z,f.b.n,u],v] w fun e w'=>e=.returned (.int .i64 (Pr.of rs (.mk f ps)))∧Below w w w':=A8Y d f u ps v rs w hu hsz hv hW
theorem A8c (d:Nat) (u:Value) (ps:List Pd) (v:Value) (rs:List (List Vl)) (w:World) (hu:PsAt d w u ps) (hsz:Pr.sizes ps≤1000) (hv:Rws w v rs) (hW:Want w) :
  Calls Tryz.prog 193 #[u,v] w fun e w'=>e=.returned (.int .i64 (Lo.andI (ps.map (Pr.of rs))))∧Below w w w' :=
 A6L d (fun e _=>A8Y e) u ps v rs w hu hsz hv hW
def PsIn (lo:Nat):Nat→World→Value→List Pd→Prop
 | 0,_,v,l=>l=[]∧∃A c,v=.slice A 0 c
 | d+1,w,v,l=>∃A c,v=.slice A l.length c∧l.length≤9223372036854775807∧∀(j:Nat) (p:Pd),l[j]?=some p→∃b o s u,A=some ⟨b,o,s⟩∧lo≤b∧b<w.heap.size∧PdCell w ((⟨b,o,s⟩:Addr).add (j*14)) p.f u∧PsIn lo d w u p.ps
theorem PsIn.at_ {lo d:Nat}:∀{w:World} {v:Value} {l:List Pd},PsIn lo d w v l→PsAt d w v l:=by
 induction d with
 | zero=>intro w v l h;exact h
 | succ d ih =>
  intro w v l h;obtain⟨A,c,hv,hc,hx⟩:=h;refine⟨A,c,hv,hc,fun j p hj=>?_⟩;obtain⟨b,o,s,u,hA,_,hlt,hcell,hp⟩:=hx j p hj;exact⟨b,o,s,u,hA,hlt,hcell,ih hp⟩
theorem PsIn.form {lo d:Nat} {w:World} {v:Value} {l:List Pd} (h:PsIn lo d w v l):∃A c,v=.slice A l.length c:=by
 obtain⟨A,c,hv,_⟩:=h.at_.form;exact⟨A,c,hv⟩
theorem PdCell.block {w w':World} {X:Addr} {f:Pf} {u:Value} (h:PdCell w X f u) (hb:w'.heap[X.block]?=w.heap[X.block]?):PdCell w' X f u :=
 have k:∀n,w'.cell? ⟨X.block,n,none⟩=w.cell? ⟨X.block,n,none⟩:=fun n=>World.cell?_of_block (a:=⟨X.block,n,none⟩) hb
 ⟨(World.cell?_of_block hb).trans h.c0,(k _).trans h.c1,(k _).trans h.c2,(k _).trans h.c3,(k _).trans h.c4,(k _).trans h.c5,(k _).trans h.c6,(k _).trans h.c7,(k _).trans h.c8,(k _).trans h.c9,(k _).trans h.c10,(k _).trans h.c11,(k _).trans h.c12,(k _).trans h.c13⟩
theorem PsIn.keep {lo d:Nat} {w w':World} (hs:w.heap.size≤w'.heap.size) (hb:∀k,lo≤k→k<w.heap.size→w'.heap[k]?=w.heap[k]?):∀{v:Value} {l:List Pd},PsIn lo d w v l→PsIn lo d w' v l:=by
 induction d with
 | zero=>intro v l h;exact h
 | succ d ih =>
  intro v l h;obtain⟨A,c,hv,hc,hx⟩:=h;refine⟨A,c,hv,hc,fun j p hj=>?_⟩;obtain⟨b,o,s,u,hA,hlo,hlt,hcell,hp⟩:=hx j p hj
  exact⟨b,o,s,u,hA,hlo,C9 hlt hs,hcell.block (by rw[L7];exact hb b hlo hlt),ih hp⟩
theorem PsIn.low {lo lo' d:Nat} {w:World} (hl:lo'≤lo):∀{v:Value} {l:List Pd},PsIn lo d w v l→PsIn lo' d w v l:=by
 induction d with
 | zero=>intro v l h;exact h
 | succ d ih =>
  intro v l h;obtain⟨A,c,hv,hc,hx⟩:=h;refine⟨A,c,hv,hc,fun j p hj=>?_⟩;obtain⟨b,o,s,u,hA,hlo,hlt,hcell,hp⟩:=hx j p hj;exact⟨b,o,s,u,hA,D5 hl hlo,hlt,hcell,ih hp⟩
theorem PsIn.more {lo d:Nat}:∀{w:World} {v:Value} {l:List Pd},PsIn lo d w v l→PsIn lo (d+1) w v l:=by
 induction d with
 | zero =>
  intro w v l h;obtain⟨rfl,A,c,rfl⟩:=h
  exact⟨A,c,rfl,by simp,fun j p hj=>by simp at hj⟩
 | succ d ih =>
  intro w v l h;obtain⟨A,c,hv,hc,hx⟩:=h;refine⟨A,c,hv,hc,fun j p hj=>?_⟩;obtain⟨b,o,s,u,hA,hlo,hlt,hcell,hp⟩:=hx j p hj;exact⟨b,o,s,u,hA,hlo,hlt,hcell,ih hp⟩
theorem PsIn.mono {lo d e:Nat} {w:World} {v:Value} {l:List Pd} (h:PsIn lo d w v l) (hd:d≤e):PsIn lo e w v l:=by
 induction hd with
 | refl=>exact h
 | step _ ih=>exact ih.more
theorem PsIn.below {lo d:Nat} {w w':World} {v:Value} {l:List Pd} (h:PsIn lo d w v l) (hb:Below w w w'):PsIn lo d w' v l:=h.keep hb.size fun k _ hk=>hb.block k hk
theorem PsIn.setCell {lo d:Nat} {w:World} {v:Value} {l:List Pd} (h:PsIn lo d w v l) {a:Addr} (ha:a.block<lo) (u:Value):PsIn lo d (w.setCell a u) v l :=
 h.keep (by simp[World.setCell]) fun k h1 hk=>Below.heap_setCell _ _ _ _ (by omega)
theorem PsIn.grown {lo d g:Nat} {w w':World} {v:Value} {l:List Pd} (h:PsIn lo d w v l) (hg:w.grownBy w' (some g)) (hlo:g<lo):PsIn lo d w' v l :=
 h.keep hg.size fun k h1 hk=>hg.block k hk (by intro e;cases e;omega)
def pdCells (L:List (Pd × Value)):List Value:=L.flatMap fun x=>x.1.f.cells x.2
theorem A0L (f:Pf) (u:Value):(f.cells u).length=14:=rfl
theorem X4:∀(L:List (Pd × Value)) (j i:Nat) (x:Pd × Value),L[j]?=some x→i<14→(pdCells L)[j*14+i]?=(x.1.f.cells x.2)[i]?:=by
 intro L
 induction L with
 | nil=>intro j i x h;simp at h
 | cons y r ih =>
  intro j i x h hi;have e:pdCells (y::r)=y.1.f.cells y.2++pdCells r:=rfl;rw[e]
  cases j with
  | zero =>
   simp at h;subst h
   rw[F2 (by rw[A0L];omega)]
   congr 1;omega
  | succ j =>
   rw[E8 (by rw[A0L];omega),A0L,show(j+1)*14+i-14=j*14+i by omega]
   exact ih j i x (by simpa using h) hi
theorem Z7 (g k:Nat):(⟨g,0,none⟩:Addr).add k=⟨g,k,none⟩:=by
 unfold Addr.add
 split
 ·next h=>subst h;rfl
 ·simp
theorem PsIn.row {lo d base g n cap:Nat} {w:World} {L:List (Pd × Value)} (ho:w.ownsRow base 57 14 (.slice (some ⟨g,0,none⟩) n cap) n (pdCells L)) (hn:L.length=n) (hnl:n≤9223372036854775807) (hg:lo≤g) (hx:∀x∈L,PsIn lo d w x.2 x.1.ps) :
  PsIn lo (d+1) w (.slice (some ⟨g,0,none⟩) n cap) (L.map Prod.fst):=by
 refine⟨_,cap,by rw[E0,hn],by rw[E0];omega,fun j p hj=>?_⟩
 rw[F5]at hj
 obtain⟨x,hx1,rfl⟩:∃x,L[j]?=some x∧x.1=p:=by
  cases h:L[j]? with
  | none=>rw[h]at hj;cases hj
  | some x=>rw[h]at hj;exact⟨x,rfl,by simpa using hj⟩
 refine⟨g,0,none,x.2,rfl,hg,(ho.lt g rfl).2,?_,hx x (C8 hx1)⟩;have hc:=ho.cells (g:=g) rfl
 have k:∀i u,i<14→(x.1.f.cells x.2)[i]?=some u→w.cell? ⟨g,j*14+i,none⟩=some u:=fun i u hi hu=>by
  have:=hc (j*14+i) u ((X4 L j i x hx1 hi).trans hu)
  rwa[Z7]at this
 rw[Z7]
 exact⟨k 0 _ (by decide) rfl,k 1 _ (by decide) rfl,k 2 _ (by decide) rfl,k 3 _ (by decide) rfl,k 4 _ (by decide) rfl,k 5 _ (by decide) rfl,k 6 _ (by decide) rfl,k 7 _ (by decide) rfl,k 8 _ (by decide) rfl,k 9 _ (by decide) rfl,k 10 _ (by decide) rfl,k 11 _ (by decide) rfl,k 12 _ (by decide) rfl,k 13 _ (by decide) rfl⟩
theorem A0K (f:Pf) (A:Option Addr) (n c:Nat):∀u∈f.cells (.slice A n c),u.oneCell'=true:=by
 intro u hu;simp only[Pf.cells,List.mem_cons,List.not_mem_nil,or_false]at hu
 rcases hu with rfl | rfl | rfl | rfl | rfl | rfl | rfl | rfl | rfl | rfl | rfl | rfl | rfl | rfl <;> rfl
def NewPred (d:Nat) (w:World) (f:Pf) (ps:List Pd) (e:Ending) (w':World):Prop:=∃u,e=.returned (.agg #[f.k,f.u,f.o,f.a.k,f.a.t,f.a.c,f.a.z,f.a.n,f.b.k,f.b.t,f.b.c,f.b.z,f.b.n,u])∧PsIn w.heap.size d w' u ps∧Below w w w'
theorem A5o (w:World) :
  Calls Tryz.prog 120 #[(),.int .i64 (0:Nat)] w fun e w'=>e=.returned (.slice none 0 0)∧w=w':=by
 have h2:wrap64 ((0:Int)-(0:Int))=0:=by unfold wrap64;omega
 go_enter Tryz.func120,Tryz.ntmps120;go_wp2_with fail;go_ret;exact⟨rfl,rfl⟩
theorem A5p (n:Nat) (w:World) (hn:n≤1000000) (h0:0<n) :
  Calls Tryz.prog 120 #[(),(n:Int)] w fun e w'=>∃G,e=.returned (.slice (some ⟨w.heap.size,0,none⟩) 0 G)∧n≤G∧w'.ownsRow w.heap.size 57 14 (.slice (some ⟨w.heap.size,0,none⟩) 0 G) 0 (pdCells [])∧Below w w w'∧w.heap.size<w'.heap.size:=by
 obtain⟨i0,hi,hz0,hz1,hz2⟩:=info_parts Tryz.infoPred
 have h1:¬((n:Int)<0):=by omega
 have h2:wrap64 ((0:Int)-(0:Int))=0:=by unfold wrap64;omega
 have h3:wrap64 ((n:Int)-0)=(n:Int):=by unfold wrap64;omega
 have h4:(n:Int)>0:=by omega
 have hr:=fun ty=>Lib.run_append_nil_zeros (P:=Tryz.prog) w 24 3 ty 57 i0 (.agg #[z9,z9,z9,z9,z9,z9,false,z9,z9,z9,z9,false,z9,()]) .i64 .i64 Tryz.underlying24 Tryz.underlying3 hi hz0 n h0 (by rw[hz1];decide) (by omega) (by rw[hz2];omega)
 obtain⟨G,hG⟩:∃G,G=grownCap w n 0 57:=⟨_,rfl⟩
 have hG1:G≤maxLen:=by rw[hG];exact grownCap_le_maxLen w n 0 _ (by unfold maxLen;omega)
 have hG2:n≤G:=by rw[hG];exact grownCap_ge w _ _ _
 have hG3:G≤9223372036854775807:=by unfold maxLen at hG1;omega
 rw[←hG]at hr;obtain⟨cur,hcur⟩:∃cur,cur=Builtin.zeroCells (.agg #[z9,z9,z9,z9,z9,z9,false,z9,z9,z9,z9,false,z9,()]:Value).cells n++Builtin.zeroCells (.agg #[z9,z9,z9,z9,z9,z9,false,z9,z9,z9,z9,false,z9,()]:Value).cells (G-n):=⟨_,rfl⟩
 have hcs:cur.size=G*14:=by
  rw[hcur,Array.size_append,size_zeroCells,size_zeroCells,show(.agg #[z9,z9,z9,z9,z9,z9,false,z9,z9,z9,z9,false,z9,()]:Value).cells.size=14 from rfl];omega
 rw[←hcur]at hr;clear hcur hG;have how:=J1 (World.ownsRow_made (base:=w.heap.size) (size:=14) (e:=57) w.drew cur G (C3 _) hG1 hcs)
 have hbw:=J1 (show Below w w (w.drew.alloc (.cells cur 57)) from((Below.refl _ w).drew).alloc (C3 _) _)
 have hlt:=J1 (show w.heap.size<(w.drew.alloc (.cells cur 57)).heap.size by rw[J2];exact Nat.lt_succ_self _)
 go_enter Tryz.func120,Tryz.ntmps120
 go_wp2_with (first | (at_builtin;refine Lib.wpList_append_run _ rfl _ _ _ _ rfl _ _ rfl rfl _ _ (hr _) ?_))
 go_ret;exact⟨G,rfl,hG2,how.out,hbw.out,hlt.out⟩
theorem A6G (d:Nat) (ih:∀e,e<d→∀(f:Pf) (u:Value) (ps:List Pd) (w:World),PsAt e w u ps→Pr.sizes ps≤1000→Calls Tryz.prog 58 #[.agg #[f.k,f.u,f.o,f.a.k,f.a.t,f.a.c,f.a.z,f.a.n,f.b.k,f.b.t,f.b.c,f.b.z,f.b.n,u]] w (NewPred e w f ps)) (u:Value) (ps:List Pd) (w:World) (hu:PsAt d w u ps) (hsz:Pr.sizes ps≤1000) :
  Calls Tryz.prog 97 #[u,.func (.func 58) #[] #[]] w fun e w'=>∃r,e=.returned r∧PsIn w.heap.size d w' r ps∧Below w w w':=by
 obtain⟨A,c,rfl,hl⟩:=hu.form
 by_cases hn0:ps.length=0
 ·have hps:ps=[]:=D6 hn0;rw[hn0,hps];have cg:=A5o w;clear hu ih hsz;go_enter Tryz.func97,Tryz.ntmps97;go_wp2_with fail;refine cg.mono ?_;rintro e w1 ⟨rfl,rfl⟩;go_wp2_with fail
  go_loopw [5,13] (fun s i wr=>i=.int .i64 0∧s=.slice none 0 0∧w=wr) (fun _ i _=>0)
  case atStart=>exact⟨rfl,rfl,rfl⟩
  case round =>
   obtain⟨rfl,rfl,rfl⟩:=hrel;go_wp2_with fail;go_ret;exact⟨_,rfl,PsIn.mono (d:=0) ⟨rfl,none,0,rfl⟩ (E3 _),Below.refl _ _⟩
 obtain⟨d',rfl⟩:∃d',d=d'+1:=by
  cases d with
  | zero=>obtain⟨h,_⟩:=hu;rw[h]at hn0;exact absurd rfl hn0
  | succ d=>exact⟨d,rfl⟩
 obtain⟨i0,hi,hz0,hz1,hz2⟩:=info_parts Tryz.infoPred;have HU:=J1 hu;have IH:=J1 ih;have HZ:=J1 hsz;have hn1:=Pr.sizes_length ps;obtain⟨n,hn⟩:∃n,n=ps.length:=⟨_,rfl⟩;rw[←hn]at hl HU hn1 hn0 ⊢
 have hn2:n≤1000:=by omega
 have HN:=J1 hn
 have cg:=A5p n w (by omega) (by omega)
 clear hu ih hsz hn1 hn hn0;go_enter Tryz.func97,Tryz.ntmps97;go_wp2_with fail;refine cg.mono ?_;rintro e w1 ⟨G,rfl,hG,hown1,hb1,hlt1⟩;have HO:=J1 hown1;clear cg hown1;go_wp2_with fail
 go_loopw [5,13] (fun s i wr=>∃(q:Nat) (L:List (Pd × Value)),q≤n∧i=.int .i64 q∧s=.slice (some ⟨w.heap.size,0,none⟩) q G∧Hid (L.map Prod.fst=ps.take q)∧wr.ownsRow w.heap.size 57 14 (.slice (some ⟨w.heap.size,0,none⟩) q G) q (pdCells L)∧Hid (∀x∈L,PsIn (w.heap.size+1) d' wr x.2 x.1.ps)∧Below w w wr) (fun _ i _=>n-(intOf i).toNat)
 case atStart=>exact⟨0,[],E3 _,rfl,rfl,J1 (by simp),HO.out,J1 (fun x h=>by simp at h),hb1⟩
 case round =>
  obtain⟨q,L,hq,rfl,rfl,hL,hown,hin,hb⟩:=hrel
  by_cases hlt:q<n
  ·obtain⟨p,gp⟩:∃p,ps[q]?=some p:=⟨ps[q]'(by have:=HN.out;omega),A8 _⟩
   have hu:=HU.out;rw[HN.out]at hu;obtain⟨e,b',o,s,v',he,rfl,_,hx⟩:=hu.at_ gp;obtain⟨hcell,hps⟩:=hx wr hb;obtain⟨A2,c2,rfl,_⟩:=hps.form;have hb3:Below w w (wr.alloc (Obj.cells #[p.f.k,p.f.u,p.f.o,p.f.a.k,p.f.a.t,p.f.a.c,p.f.a.z,p.f.a.n,p.f.b.k,p.f.b.t,p.f.b.c,p.f.b.z,p.f.b.n,.slice A2 p.ps.length c2] 57)):=J5 hb (J6 _ _);have hown2:(wr.alloc (Obj.cells #[p.f.k,p.f.u,p.f.o,p.f.a.k,p.f.a.t,p.f.a.c,p.f.a.z,p.f.a.n,p.f.b.k,p.f.b.t,p.f.b.c,p.f.b.z,p.f.b.n,.slice A2 p.ps.length c2] 57)).ownsRow _ _ _ _ _ _:=hown.alloc _;have hgw:w.heap.size<wr.heap.size:=(hown.lt _ rfl).2
   have hgw2:w.heap.size<(wr.alloc (Obj.cells #[p.f.k,p.f.u,p.f.o,p.f.a.k,p.f.a.t,p.f.a.c,p.f.a.z,p.f.a.n,p.f.b.k,p.f.b.t,p.f.b.c,p.f.b.z,p.f.b.n,.slice A2 p.ps.length c2] 57)).heap.size:=by rw[J2];omega
   have hin2:Hid (∀x∈L,PsIn (w.heap.size+1) d' (wr.alloc (Obj.cells #[p.f.k,p.f.u,p.f.o,p.f.a.k,p.f.a.t,p.f.a.c,p.f.a.z,p.f.a.n,p.f.b.k,p.f.b.t,p.f.b.c,p.f.b.z,p.f.b.n,.slice A2 p.ps.length c2] 57)) x.2 x.1.ps):=J1 fun x h=>(hin.out x h).below (J6 _ _)
   have cs:=IH.out e (by omega) p.f _ p.ps _ ((hx _ hb3).2) (by have:=Pr.sizes_down gp;have:=HZ.out;omega)
   have HT:=J1 (show ps.take (q+1)=ps.take q++[p] by rw[D7,gp];rfl)
   have HE:=J1 he;obtain⟨x0,x1,x2,x3,x4,x5,x6,x7,x8,x9,x10,x11,x12,x13⟩:=hcell;clear gp hx hps hu hown hin he;go_wp2_with fail;refine cs.mono ?_;rintro e2 w2 ⟨u2,rfl,hnew,hb2⟩;have hb':=J5 hb3 hb2;have hown3:=A0m hown2 hb2;have hin3:Hid (∀x∈L,PsIn (w.heap.size+1) d' w2 x.2 x.1.ps):=J1 fun x h=>(hin2.out x h).below hb2;obtain⟨B2,k2,rfl⟩:=hnew.form
   have hnew2:=J1 ((hnew.low (show w.heap.size+1≤_ from hgw2)).mono (show e≤d' by have:=HE.out;omega))
   have hgw3:w.heap.size<w2.heap.size:=C9 hgw2 hb2.size;clear cs x0 x1 x2 x3 x4 x5 x6 x7 x8 x9 x10 x11 x12 x13 hb2 hb3 hown2 hin2 hnew hgw hgw2;have hoa:=J1 (hown3.alloc (Obj.cells #[p.f.k,p.f.u,p.f.o,p.f.a.k,p.f.a.t,p.f.a.c,p.f.a.z,p.f.a.n,p.f.b.k,p.f.b.t,p.f.b.c,p.f.b.z,p.f.b.n,.slice B2 p.ps.length k2] 57))
   have hca:=J1 (show ∀j u,(p.f.cells (.slice B2 p.ps.length k2))[j]?=some u→(w2.alloc (Obj.cells #[p.f.k,p.f.u,p.f.o,p.f.a.k,p.f.a.t,p.f.a.c,p.f.a.z,p.f.a.n,p.f.b.k,p.f.b.t,p.f.b.c,p.f.b.z,p.f.b.n,.slice B2 p.ps.length k2] 57)).cell? ((⟨w2.heap.size,0,none⟩:Addr).add j)=some u from fun j u hju=>by rw[Z7];exact(Lies.new w2 _ (p.f.cells (.slice B2 p.ps.length k2))).cell hju)
   have hba:=J1 (hb'.alloc hb'.size (Obj.cells #[p.f.k,p.f.u,p.f.o,p.f.a.k,p.f.a.t,p.f.a.c,p.f.a.z,p.f.a.n,p.f.b.k,p.f.b.t,p.f.b.c,p.f.b.z,p.f.b.n,.slice B2 p.ps.length k2] 57))
   have hsa:=J1 (show w.heap.size≤(w2.alloc (Obj.cells #[p.f.k,p.f.u,p.f.o,p.f.a.k,p.f.a.t,p.f.a.c,p.f.a.z,p.f.a.n,p.f.b.k,p.f.b.t,p.f.b.c,p.f.b.z,p.f.b.n,.slice B2 p.ps.length k2] 57)).heap.size by rw[J2];omega)
   clear hown3
   go_wp2_with (first
    | (at_builtin;refine wpList_append_fits _ rfl _ _ 24 rfl w.heap.size 57 i0 14 Tryz.underlying24 hi hz1 w.heap.size q G _ rfl hoa.out ⟨w2.heap.size,0,none⟩ 1 1 (p.f.cells (.slice B2 p.ps.length k2)) rfl rfl hca.out (A0K _ _ _ _) (by omega) ?_))
   intro w3 hown4 hgrow
   have hb5:Below w w w3:=hba.out.grown hgrow hsa.out (fun k hk=>by cases hk;exact C3 _)
   have hL2:Hid ((L++[(p,Value.slice B2 p.ps.length k2)]).map Prod.fst=ps.take (q+1)):=J1 (by rw[List.map_append,hL.out,HT.out];rfl)
   have hown5:w3.ownsRow w.heap.size 57 14 (.slice (some ⟨w.heap.size,0,none⟩) (q+1) G) (q+1) (pdCells (L++[(p,.slice B2 p.ps.length k2)])):=by
    have e:pdCells (L++[(p,Value.slice B2 p.ps.length k2)])=pdCells L++p.f.cells (.slice B2 p.ps.length k2):=by simp[pdCells]
    rw[e];exact hown4
   have hin5:Hid (∀x∈L++[(p,Value.slice B2 p.ps.length k2)],PsIn (w.heap.size+1) d' w3 x.2 x.1.ps):=J1 fun x hx=>by
    rcases G3.1 hx with h | h
    ·exact((hin3.out x h).below (J6 _ _)).grown hgrow (by omega)
    ·obtain rfl:=G4.1 h
     exact(hnew2.out.below (J6 _ _)).grown hgrow (by omega)
   clear hown4 hgrow hb' hin3 hnew2;go_wp2_with fail
   go_roundw
   case rel=>exact⟨q+1,_,by omega,by go_num,rfl,hL2,hown5,hin5,hb5⟩
   case measure=>simp[intOf];omega
  ·obtain rfl:n=q:=by omega
   have hLn:L.map Prod.fst=ps:=by rw[hL.out,C7 (by have:=HN.out;omega)]
   have hrow:PsIn w.heap.size (d'+1) wr (.slice (some ⟨w.heap.size,0,none⟩) n G) ps:=by
    have:=PsIn.row (lo:=w.heap.size) hown (by rw[←E0 (f:=Prod.fst),hLn,HN.out]) (by omega) (C3 _) (fun x h=>(hin.out x h).low (Nat.le_succ _))
    rwa[hLn]at this
   have HR:=J1 hrow;clear hrow hown hin hLn;go_wp2_with fail;go_ret;exact⟨_,rfl,HR.out,hb⟩
theorem A8a (d:Nat):∀(f:Pf) (u:Value) (ps:List Pd) (w:World),PsAt d w u ps→Pr.sizes ps≤1000→Calls Tryz.prog 58 #[.agg #[f.k,f.u,f.o,f.a.k,f.a.t,f.a.c,f.a.z,f.a.n,f.b.k,f.b.t,f.b.c,f.b.z,f.b.n,u]] w (NewPred d w f ps):=by
 induction d using Nat.strongRecOn with
 | ind d ih =>
 intro f u ps w hu hsz;obtain⟨A,c,rfl,hl⟩:=hu.form;obtain⟨W0,hW0⟩:∃W0,W0=(w.alloc (Obj.cells #[f.k,f.u,f.o,f.a.k,f.a.t,f.a.c,f.a.z,f.a.n,f.b.k,f.b.t,f.b.c,f.b.z,f.b.n,.slice A ps.length c] 57)).alloc (Obj.cells #[z9,z9,z9,z9,z9,z9,false,z9,z9,z9,z9,false,z9,()] 57):=⟨_,rfl⟩;obtain⟨l0,l1,hb0⟩:=Q0 (cs:=f.cells (.slice A ps.length c)) (ds:=[z9,z9,z9,z9,z9,z9,false,z9,z9,z9,z9,false,z9,()]) hW0;have cs:=A6G d ih _ ps W0 (hu.below hb0 (C3 _)) hsz;have HW:=J1 hW0;have HP:=J1 l0;have HQ:=J1 l1
 have hsz0:W0.heap.size=w.heap.size+1+1:=by rw[hW0,J2,J2]
 have x13:=l0.pd.c13;clear hu hW0 l0 l1 ih hsz;go_enter Tryz.func58,Tryz.ntmps58
 go_upto_region 1 with(fail)
 rw[←HW.out];go_wp2_with fail;refine cs.mono ?_;rintro e w2 ⟨r,rfl,hin,hb2⟩;obtain⟨B2,c2,rfl⟩:=hin.form;clear cs x13;have l2:=HP.out.below hb2 HP.out.lt;have q2:=HQ.out.below hb2 HQ.out.lt;have HIN:=J1 hin;have x13:=l2.pd.c13;have fr:=l2.free 13;have HL2:=J1 l2;have HQ2:=J1 q2;clear hin l2 q2
 go_upto_region 2 with(fail)
 obtain⟨W3,hW3⟩:∃W3,W3=w2.setCell ⟨w.heap.size,13,none⟩ (.slice B2 ps.length c2):=⟨_,rfl⟩;rw[←hW3]
 have l3:Lies W3 w.heap.size 57 (f.cells (.slice B2 ps.length c2)):=by rw[hW3];exact HL2.out.set 13 _
 have q3:Lies W3 (w.heap.size+1) 57 [z9,z9,z9,z9,z9,z9,false,z9,z9,z9,z9,false,z9,()]:=by rw[hW3];exact HQ2.out.far (by show w.heap.size+1≠w.heap.size;omega) _
 have hin3:PsIn W0.heap.size d W3 (.slice B2 ps.length c2) ps:=by rw[hW3];exact HIN.out.setCell (by show w.heap.size<W0.heap.size;omega) _
 have hb3:Below w w W3:=by rw[hW3];exact(J5 hb0 hb2).setCell (C3 _) _
 have HIN3:=J1 hin3;have HB3:=J1 hb3;have HSZ:=J1 hsz0;obtain⟨x0,x1,x2,x3,x4,x5,x6,x7,x8,x9,x10,x11,x12,x13⟩:=l3.pd;have z0:=q3.c 0 rfl;have z1:=q3.c 1 rfl;have z2:=q3.c 2 rfl;have z3:=q3.c 3 rfl;have z4:=q3.c 4 rfl;have z5:=q3.c 5 rfl;have z6:=q3.c 6 rfl;have z7:=q3.c 7 rfl;have z8:=q3.c 8 rfl;have z9:=q3.c 9 rfl;have z10:=q3.c 10 rfl;have z11:=q3.c 11 rfl;have z12:=q3.c 12 rfl;have z13:=q3.c 13 rfl;have f0:=q3.free 0;have f1:=q3.free 1;have f2:=q3.free 2;have f3:=q3.free 3;have f4:=q3.free 4;have f5:=q3.free 5;have f6:=q3.free 6;have f7:=q3.free 7;have f8:=q3.free 8;have f9:=q3.free 9;have f10:=q3.free 10;have f11:=q3.free 11;have f12:=q3.free 12;have f13:=q3.free 13;clear hW3 l3 hin3 hb3 fr hb0 hb2 hsz0;have Q3:=J1 q3;clear q3;go_wp2_with fail;obtain⟨W4,hW4⟩:∃W4,W4=((((((((((((((W3).setCell ⟨w.heap.size+1,0,none⟩ (.int .i64 f.k)).setCell ⟨w.heap.size+1,1,none⟩ (.int .i64 f.u)).setCell ⟨w.heap.size+1,2,none⟩ (.int .i64 f.o)).setCell ⟨w.heap.size+1,3,none⟩ (.int .i64 f.a.k)).setCell ⟨w.heap.size+1,4,none⟩ (.int .i64 f.a.t)).setCell ⟨w.heap.size+1,5,none⟩ (.int .i64 f.a.c)).setCell ⟨w.heap.size+1,6,none⟩ (.bool f.a.z)).setCell ⟨w.heap.size+1,7,none⟩ (.int .i64 f.a.n)).setCell ⟨w.heap.size+1,8,none⟩ (.int .i64 f.b.k)).setCell ⟨w.heap.size+1,9,none⟩ (.int .i64 f.b.t)).setCell ⟨w.heap.size+1,10,none⟩ (.int .i64 f.b.c)).setCell ⟨w.heap.size+1,11,none⟩ (.bool f.b.z)).setCell ⟨w.heap.size+1,12,none⟩ (.int .i64 f.b.n)).setCell ⟨w.heap.size+1,13,none⟩ (.slice B2 ps.length c2):=⟨_,rfl⟩;rw[←hW4]
 have hh:w.heap.size+1<W0.heap.size:=by have:=HSZ.out;omega
 have hh2:w.heap.size≤w.heap.size+1:=by omega
 have q4:Lies W4 (w.heap.size+1) 57 (f.cells (.slice B2 ps.length c2)):=by rw[hW4];exact((((((((((((((Q3.out).set 0 _).set 1 _).set 2 _).set 3 _).set 4 _).set 5 _).set 6 _).set 7 _).set 8 _).set 9 _).set 10 _).set 11 _).set 12 _).set 13 _
 have hin4:PsIn W0.heap.size d W4 (.slice B2 ps.length c2) ps:=by rw[hW4];exact((((((((((((((HIN3.out).setCell hh _).setCell hh _).setCell hh _).setCell hh _).setCell hh _).setCell hh _).setCell hh _).setCell hh _).setCell hh _).setCell hh _).setCell hh _).setCell hh _).setCell hh _).setCell hh _
 have hb4:Below w w W4:=by rw[hW4];exact((((((((((((((HB3.out).setCell hh2 _).setCell hh2 _).setCell hh2 _).setCell hh2 _).setCell hh2 _).setCell hh2 _).setCell hh2 _).setCell hh2 _).setCell hh2 _).setCell hh2 _).setCell hh2 _).setCell hh2 _).setCell hh2 _).setCell hh2 _
 clear hW4 z0 z1 z2 z3 z4 z5 z6 z7 z8 z9 z10 z11 z12 z13 f0 f1 f2 f3 f4 f5 f6 f7 f8 f9 f10 f11 f12 f13 x0 x1 x2 x3 x4 x5 x6 x7 x8 x9 x10 x11 x12 x13;obtain⟨x0,x1,x2,x3,x4,x5,x6,x7,x8,x9,x10,x11,x12,x13⟩:=q4.pd;simp only[G6]at x0 x1 x2 x3 x4 x5 x6 x7 x8 x9 x10 x11 x12 x13
 exact bodyPost_ret (v:=.agg #[f.k,f.u,f.o,f.a.k,f.a.t,f.a.c,f.a.z,f.a.n,f.b.k,f.b.t,f.b.c,f.b.z,f.b.n,.slice B2 ps.length c2]) (by simp[results,Tryz.results58,go_sem,x0,x1,x2,x3,x4,x5,x6,x7,x8,x9,x10,x11,x12,x13]) rfl ⟨_,rfl,hin4.low (by omega),hb4⟩
end Go.Proofs.YtbddhkgbpjhhaaaGreatDoor
