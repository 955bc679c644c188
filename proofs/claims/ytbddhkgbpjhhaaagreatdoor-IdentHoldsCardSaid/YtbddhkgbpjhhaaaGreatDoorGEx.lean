/-
  LAID TOGETHER, BY PROGRAM, of: Exa, Exb, Exc, Exd, Exf, Exg, Exk, DaWf.
-/
import Derived.Test.YtbddhkgbpjhhaaaGreatDoorGPl2
import Derived.Test.YtbddhkgbpjhhaaaGreatDoorGNs
import Derived.Test.YtbddhkgbpjhhaaaGreatDoorGCkC
import Derived.Test.YtbddhkgbpjhhaaaGreatDoorGHsB
import Derived.Test.YtbddhkgbpjhhaaaGreatDoorGTreeA
import Derived.Test.YtbddhkgbpjhhaaaGreatDoorGMtC
import Derived.Deep.OwnRows
set_option maxHeartbeats 6400000
set_option maxRecDepth 100000
namespace Go.Proofs.YtbddhkgbpjhhaaaGreatDoor
open Go.RowKit Go.Sort
theorem A8p (n:Nat):madeCells #[Value.slice none 0 0] n=Array.replicate n (Value.slice none 0 0):=by
 refine Array.ext (by simp[madeCells]) fun i h1 h2=>?_
 simp[madeCells,Nat.mod_one]
theorem A7U {α:Type} (t:Nat) (z u:α):(List.replicate (t+1) z).set t u=List.replicate t z++[u]:=by
 rw[List.replicate_succ',List.set_append]
 simp
theorem A5y {T:Nat→Prop} {w:World} {g t:Nat} {u:Value} {r:List Vl} {E:TypeId} (hl:Lies w g E (List.replicate t (.slice none 0 0)++[u])) (hu:RowOn T w u r) (hg:T g) :
  RwsOn T w (.slice (some ⟨g,0,none⟩) (t+1) (t+1)) (List.replicate t []++[r]):=by
 refine⟨List.replicate t (.slice none 0 0)++[u],⟨some ⟨g,0,none⟩,t+1,by simp,by simp,fun j x hj=>⟨g,0,none,rfl,hg,hl.lt,by rw[S2];exact hl.cell hj⟩⟩,by simp,fun i x hi=>?_⟩
 rcases Nat.lt_trichotomy i t with h | h | h
 ·rw[F2 (by simpa using h),List.getElem?_replicate,if_pos h]at hi
  cases hi
  exact⟨.slice none 0 0,by rw[F2 (by simpa using h),List.getElem?_replicate,if_pos h],RowOn.nil _ _⟩
 ·subst h
  rw[E8 (by simp)]at hi
  simp at hi
  subst hi
  exact⟨u,by rw[E8 (by simp)];simp,hu⟩
 ·rw[E6 (by simp;omega)]at hi
  cases hi
theorem A51 (t:Nat) (dv:Value) (d:List (List (List Vl))) (rs:List (List Vl)) (w:World) (hd:Dts w dv d) (hg:d[t]?=some rs) (ht:t<64) (hrs:rs.length≤10000) (hx:∀x∈rs,x.length≤1000) :
  Calls Tryz.prog 47 #[(t:Int),dv] w (OwnTus w (Ex.leaf (t:Int) d)):=by
 obtain⟨i0,hi,hz0,hz1,hz2⟩:=info_parts Tryz.infoTup13;have htl:t<d.length:=(D8.1 hg).1
 have he:Ex.leaf (t:Int) d=rs.map fun r=>List.replicate t []++[r]:=by unfold Ex.leaf;rw[Int.toNat_natCast,hg];rfl
 rw[he];obtain⟨D,dc,rfl,hdc,hat⟩:=hd;obtain⟨b,o,p,B,e,rfl,hlt,hcell,hrws⟩:=hat t rs hg;have hro:=hrws.on
 have hmk:∀W:World,(Instr.makeSlice 33 (.int .i64 ((t:Int)+1)) (.int .i64 ((t:Int)+1))).run Tryz.prog W=.ok (.slice (some ⟨W.heap.size,0,none⟩) (t+1) (t+1)) (W.alloc (.cells (Array.replicate (t+1) (Value.slice none 0 0)) 63)):=fun W=>by
  rw[←A8p]
  exact run_make_row' 33 63 (.slice none 0 0) 24 Tryz.underlying33 Tryz.infoRow13 rfl .i64 .i64 (t+1) (by omega) (by omega) W
 obtain⟨f,hf⟩:∃f:List Vl→List (List Vl),f=fun r=>List.replicate t []++[r]:=⟨_,rfl⟩;rw[←hf];have HF:=J1 hf;have HX:=J1 hx;obtain⟨dl,hdl⟩:∃n,n=d.length:=⟨_,rfl⟩;rw[←hdl]at htl hdc ⊢;obtain⟨n,hn⟩:∃n,n=rs.length:=⟨_,rfl⟩;rw[←hn]at hrs hcell hro;have HRO:=J1 hro;have HN:=J1 hn
 have j1:¬((t:Int)<0):=by omega
 have j2:¬((t:Int)≥(dl:Int)):=by omega
 have j3:(0:Int)≤(t:Int):=by omega
 have j4:(t:Int)<(dl:Int):=by omega
 have j5:(t:Int)<((t+1:Nat):Int):=by omega
 have j6:(t:Int)+1≤9223372036854775807:=by omega
 clear hat hrws hro hdl hn hg he hf hx;go_enter Tryz.func47,Tryz.ntmps47;go_wp2_with fail;clear hcell
 go_loopw [5,22] (fun s i wr=>∃(q a:Nat) (us:List Value) (A:Option Addr),q≤n∧i=.int .i64 q∧s=.slice A q a∧q≤a∧Hid (TuRow (fun j=>w.heap.size≤j) w.heap.size wr (.slice A q a) q us ((rs.take q).map f))∧Below w w wr) (fun _ i _=>n-(intOf i).toNat)
 case atStart=>exact⟨0,0,[],none,E3 _,rfl,rfl,C3 _,J1 ⟨World.ownsRow_nil _ _ _ _,by simp,fun i t h=>by simp at h⟩,Below.refl _ _⟩
 case round =>
  obtain⟨q,a,us,A,hq,rfl,rfl,hqa,HT,hb⟩:=hrel
  by_cases hlt:q<n
  ·obtain⟨r,gr⟩:∃r,rs[q]?=some r:=⟨rs[q]'(by have:=HN.out;omega),A8 _⟩
   obtain⟨b1,o1,p1,B1,d1,hB0,hd1,h1⟩:=HRO.out.pick gr;subst hB0;have hHR:=HX.out r (C8 gr)
   have i1:(0:Int)≤(q:Int):=by omega
   have i2:(q:Int)<(n:Int):=by omega
   obtain⟨hcell,hrow⟩:=h1 wr hb;obtain⟨W1,hW1⟩:∃W1,W1=wr.alloc (.cells (Array.replicate (t+1) (Value.slice none 0 0)) 63):=⟨_,rfl⟩
   have hl1:Lies W1 wr.heap.size 63 (List.replicate (t+1) (Value.slice none 0 0)):=by rw[hW1,←List.toArray_replicate];exact Lies.new _ _ _
   have hb1:Below wr wr W1:=by rw[hW1];exact J6 _ _
   have hs1:W1.heap.size=wr.heap.size+1:=by rw[hW1];simp
   have cc:=A3G (.slice B1 r.length d1) r W1 (hrow.below hb1 (C3 _)).at_ (by omega)
   have HMAP:=J1 (show(rs.take (q+1)).map f=(rs.take q).map f++[f r] by rw[D7,gr];simp)
   have HW1:=J1 hW1;have HL1:=J1 hl1;have HB1:=J1 hb1;have HS1:=J1 hs1;obtain⟨rl,hrl⟩:∃n,n=r.length:=⟨_,rfl⟩;rw[←hrl]at cc hcell;have HRL:=J1 hrl;clear h1 gr hrow hW1 hl1 hb1 hs1 hd1 hrl hHR;go_wp2_with fail;rw[←HW1.out];refine cc.mono ?_;rintro E w2 ⟨A2,c2,rfl,hR2,hb2⟩;rw[←HRL.out]at hR2 ⊢;have hl2:=HL1.out.below hb2 HL1.out.lt
   have k1:=hl2.cell (i:=t) (u:=.slice none 0 0) (by rw[List.getElem?_replicate,if_pos (by omega)])
   have k2:=hl2.free t;have HL2:=J1 hl2;have HR2:=J1 hR2;have HB2:=J1 hb2;obtain⟨W3,hW3⟩:∃W3,W3=w2.setCell ⟨wr.heap.size,t,none⟩ (.slice A2 rl c2):=⟨_,rfl⟩
   have hl3:Lies W3 wr.heap.size 63 (List.replicate t (.slice none 0 0)++[.slice A2 rl c2]):=by
    have h5:=hl2.set t (.slice A2 rl c2);rw[A7U]at h5;rw[hW3];exact h5
   have hr3:RowOn (fun k=>wr.heap.size≤k) W3 (.slice A2 rl c2) r:=by
    have h5:=hR2.keep (S:=fun k=>k≠wr.heap.size) (w':=W3) (by rw[hW3];exact X2 w2 ⟨wr.heap.size,t,none⟩ _) (fun k _ hk=>by have:=HS1.out;omega)
    exact h5.mono fun k _ hk=>by have:=HS1.out;omega
   have hb3:Below wr wr W3:=by rw[hW3];exact(J5 HB1.out hb2).setCell (C3 _) _
   have ht3:=A5y (T:=fun k=>wr.heap.size≤k) hl3 hr3 (C3 _);obtain⟨W4,hW4⟩:∃W4,W4=W3.alloc (Obj.cells #[.slice (some ⟨wr.heap.size,0,none⟩) (t+1) (t+1)] 33):=⟨_,rfl⟩;have hb4':=J6 W3 (Obj.cells #[.slice (some ⟨wr.heap.size,0,none⟩) (t+1) (t+1)] 33);rw[←hW4]at hb4';have ht4:=ht3.below hb4' (C3 _);have hb4:=J5 hb3 hb4';have hT4:=HT.out.below hb4
   have HCN:=J1 (show ∀(j:Nat) (x:Value),[Value.slice (some ⟨wr.heap.size,0,none⟩) (t+1) (t+1)][j]?=some x→W4.cell? ((⟨w2.heap.size,0,none⟩:Addr).add j)=some x by
    have hsz:w2.heap.size=W3.heap.size:=by rw[hW3];simp
    rw[hW4,hsz];exact cell_one_new W3 (.slice (some ⟨wr.heap.size,0,none⟩) (t+1) (t+1)) 33)
   have HWW:=J1 (J0 hW3 hW4);have HT4:=J1 hT4;have HBB:=J1 (J0 (J5 hb hb4) hb)
   have HPUSH:=J1 (fun v1 w5 (hown:w5.ownsRow w.heap.size 33 1 v1 (q+1) (us++[.slice (some ⟨wr.heap.size,0,none⟩) (t+1) (t+1)])) (hg:W4.grownBy w5 (Value.slice A q a).ownBlock) (hw:v1.ownBlock=(Value.slice A q a).ownBlock∨∃g,v1.ownBlock=some g∧W4.heap.size≤g) =>
    hT4.push (ht4.mono fun k _ hk=>⟨fun e=>by have:=(HT.out.own.lt k e).2;omega,by have:=hb.size;omega⟩) hown hg hw)
   clear cc hcell hl2 hR2 hb2 hW3 hl3 hr3 hb3 ht3 hW4 hb4' ht4 hb4 hT4
   go_wp2_with (first
    | (at_builtin;rw[←HWW.out.1,←HWW.out.2];refine Q8 _ rfl _ _ 29 rfl w.heap.size 33 i0 (.slice none 0 0) 1 24 Tryz.underlying29 hi hz0 hz1 hz2 rfl (by decide) _ q us rfl HT4.out.own ⟨w2.heap.size,0,none⟩ 1 1 [.slice (some ⟨wr.heap.size,0,none⟩) (t+1) (t+1)] rfl rfl ?c1 ?c2 ?c3 ?c4 ?c5 ?_))
   case c1=>exact HCN.out
   case c2=>intro u hu;simp at hu;subst hu;rfl
   case c3=>unfold maxLen;omega
   case c4=>omega
   case c5=>exact HBB.out.1.size
   intro v1 w5 hown3 hgrow hwhere;have hT5:=HPUSH.out v1 w5 hown3 hgrow hwhere;have hb5:Below w w w5:=HBB.out.1.grown hgrow HBB.out.1.size (fun k hk=>(HT4.out.own.lt k hk).1)
   obtain⟨A5,a5,rfl,ha5⟩:∃A5 a5,v1=.slice A5 (q+1) a5∧q+1≤a5:=by
    rcases hown3.2 with⟨rfl,h0⟩ | ⟨g,cap,cur,rfl,_,_,hnc,_⟩
    ·omega
    ·exact⟨_,cap,rfl,hnc⟩
   have hfr:f r=List.replicate t []++[r]:=by rw[HF.out]
   rw[←hfr,←HMAP.out]at hT5;have HT5:=J1 hT5;clear hT5 hown3 hgrow hwhere hfr hb k1 k2;go_wp2_with fail
   go_roundw
   case rel=>exact⟨q+1,a5,_,A5,by omega,by go_num,rfl,ha5,HT5,hb5⟩
   case measure=>simp[intOf];omega
  ·have hres:=J1 (show OwnTus w (rs.map f) (.returned (.slice A q a)) wr from by
    have h1:=HT.out
    rw[C7 (by have:=HN.out;omega)]at h1
    have h2:=h1.len
    exact⟨A,a,us,by rw[h2],by rw[h2];exact h1,by rw[h2];exact hqa,hb⟩)
   have i2:¬((q:Int)<(n:Int)):=by omega
   clear hb hlt HT;go_wp2_with fail;go_ret;exact hres.out
theorem OwnTus.up {w w1 w':World} {ts:List (List (List Vl))} {E:Ending} (h:OwnTus w1 ts E w') (hb:Below w w w1):OwnTus w ts E w':=by
 obtain⟨A,a,us,h1,h2,h3,h4⟩:=h
 exact⟨A,a,us,h1,⟨h2.own.mono hb.size,h2.len,fun i t hi=>by
  obtain⟨u,h5,h6⟩:=h2.tup i t hi;exact⟨u,h5,h6.mono fun j _ hj=>⟨hj.1,D5 hb.size hj.2⟩⟩⟩,h3,J5 hb h4⟩
theorem A3i (k t:Int) (A B:Option Addr) (n c m e:Nat) (w:World) :
  Calls Tryz.prog 48 #[.agg #[k,t,.slice A n c,.slice B m e,false]] w
   fun E w'=>E=.returned (.agg #[k,t,.slice A n c,.slice B m e,false,.func (.func 90) #[.agg #[k,t,.slice A n c,.slice B m e,false,.nilFunc]] #[]])∧Below w w w':=by
 go_enter Tryz.func48,Tryz.ntmps48;go_wp2_with fail
 exact bodyPost_ret (v:=.agg #[k,t,.slice A n c,.slice B m e,false,.func (.func 90) #[.agg #[k,t,.slice A n c,.slice B m e,false,.nilFunc]] #[]]) (by simp[results,Tryz.results48,go_sem]) rfl ⟨rfl,(((Below.refl _ _).alloc (C3 _) _).alloc (by simp) _).alloc (by simp;omega) _⟩
theorem A3j (k t:Int) (A B:Option Addr) (n c m e:Nat) (w:World) :
  Calls Tryz.prog 48 #[.agg #[k,t,.slice A n c,.slice B m e,true]] w
   fun E w'=>E=.returned (.agg #[k,t,.slice A n c,.slice B m e,true,.func (.func 91) #[.agg #[k,t,.slice A n c,.slice B m e,true,.func (.func 90) #[.agg #[k,t,.slice A n c,.slice B m e,true,.nilFunc]] #[]]] #[]])∧Below w w w':=by
 go_enter Tryz.func48,Tryz.ntmps48;go_wp2_with fail
 exact bodyPost_ret (v:=.agg #[k,t,.slice A n c,.slice B m e,true,.func (.func 91) #[.agg #[k,t,.slice A n c,.slice B m e,true,.func (.func 90) #[.agg #[k,t,.slice A n c,.slice B m e,true,.nilFunc]] #[]]] #[]]) (by simp[results,Tryz.results48,go_sem]) rfl ⟨rfl,(((Below.refl _ _).alloc (C3 _) _).alloc (by simp) _).alloc (by simp;omega) _⟩
theorem A3n (k t:Int) (A:Option Addr) (n c d:Nat) (cv lv rv:Value) (ps:List Pd) (L R:List (List (List Vl))) (w:World) (hp:PsAt d w cv ps) (hsz:Pr.sizes ps≤1000) (hW:Want w) (hl:TusOn Al w lv L) (hr:TusOn Al w rv R) (hfl:Ns.Few 10000 100 L) (hfr:Ns.Few 10000 100 R) :
  Calls Tryz.prog 90 #[.agg #[k,t,.slice A n c,cv,false,.nilFunc],lv,rv] w (OwnTus w (Ns.join k ps L R)):=by
 obtain⟨P0,p0,rfl,_⟩:=hp.form;obtain⟨L0,c0,rfl,_⟩:=hl.form;obtain⟨R0,c1,rfl,_⟩:=hr.form;obtain⟨W0,hW0⟩:∃W0,W0=w.alloc (Obj.cells #[k,t,.slice A n c,.slice P0 ps.length p0,false,.nilFunc] 99):=⟨_,rfl⟩;obtain⟨l0,hb0⟩:=L5 (cs:=[k,t,.slice A n c,.slice P0 ps.length p0,false,.nilFunc]) hW0;have cj:=A3m k d _ _ _ ps L R W0 (hp.below hb0 (C3 _)) hsz (hW.below hb0 (C3 _)) (hl.below hb0 (C3 _)) (hr.below hb0 (C3 _)) hfl hfr;have x0:=l0.c 0 rfl;have x3:=l0.c 3 rfl;have HW:=J1 hW0;have HB:=J1 hb0;generalize ps.length=pl at *;generalize L.length=ll at *;generalize R.length=rl at *;obtain⟨J,hJ⟩:∃J,J=Ns.join k ps L R:=⟨_,rfl⟩;rw[←hJ]at cj ⊢;clear hp hsz hW hl hr hfl hfr hW0 l0 hJ;go_enter Tryz.func90,Tryz.ntmps90
 go_upto_region 1 with(fail)
 rw[←HW.out];go_wp2_with fail;refine cj.mono ?_;rintro E w2 ho;have HO:=J1 (ho.up HB.out);obtain⟨A2,a2,_,rfl,_,_,_⟩:=ho;clear cj x0 x3;go_wp2_with fail;go_ret;exact HO.out
theorem A3x (k t:Int) (d dd:Nat) (u cv lv rv:Value) (x y:Tr) (ps:List Pd) (L R:List (List (List Vl))) (w:World) (hu:TsAt dd w u [x,y]) (hp:PsAt d w cv ps) (hsz:Pr.sizes ps≤1000) (hW:Want w) (hP:Pows w) (hl:TusOn Al w lv L) (hr:TusOn Al w rv R) (hfl:Ns.Few 10000 100 L) (hfr:Ns.Few 10000 100 R) (hwl:Hs.Wf L) (hwr:Hs.Wf R) :
  Calls Tryz.prog 91 #[.agg #[k,t,u,cv,true,.func (.func 90) #[.agg #[k,t,u,cv,true,.nilFunc]] #[]],lv,rv] w (OwnTus w (Hs.join k ps (Tr.seen x) (Tr.seen y) L R)):=by
 obtain⟨A,c,hu0,_⟩:=hu.form;change u=.slice A 2 c at hu0;subst hu0;obtain⟨P0,p0,rfl,_⟩:=hp.form;obtain⟨L0,c0,rfl,_⟩:=hl.form;obtain⟨R0,c1,rfl,_⟩:=hr.form;obtain⟨W0,hW0⟩:∃W0,W0=w.alloc (Obj.cells #[k,t,.slice A 2 c,.slice P0 ps.length p0,true,.func (.func 90) #[.agg #[k,t,.slice A 2 c,.slice P0 ps.length p0,true,.nilFunc]] #[]] 99):=⟨_,rfl⟩;obtain⟨l0,hb0⟩:=L5 (cs:=[k,t,.slice A 2 c,.slice P0 ps.length p0,true,.func (.func 90) #[.agg #[k,t,.slice A 2 c,.slice P0 ps.length p0,true,.nilFunc]] #[]]) hW0;have hts:TsAt dd W0 (.slice A ([x,y]:List Tr).length c) [x,y]:=hu.below hb0 (C3 _);obtain⟨e6,b0,o0,s0,u6,v6,hlt6,rfl,hb0l,hX⟩:=hts.at_ (j:=0) (a:=x) rfl;obtain⟨e8,b0',o0',s0',u8,v8,hlt8,hA8,_,hY⟩:=hts.at_ (j:=1) (a:=y) rfl
 obtain⟨rfl,rfl,rfl⟩:b0=b0'∧o0=o0'∧s0=s0':=by
  simp only[Option.some.injEq,Addr.mk.injEq]at hA8;exact hA8
 obtain⟨B6,d6,rfl,_⟩:=(hX W0 (Below.refl _ _)).2.2.form;obtain⟨B7,d7,rfl,_⟩:=(hX W0 (Below.refl _ _)).2.1.elim fun d h=>h.form;obtain⟨B8,d8,rfl,_⟩:=(hY W0 (Below.refl _ _)).2.2.form;obtain⟨B9,d9,rfl,_⟩:=(hY W0 (Below.refl _ _)).2.1.elim fun d h=>h.form;simp only[Nat.zero_mul,R3]at hX
 have hadd:(⟨b0,o0,s0⟩:Addr).add (1*5)=⟨b0,o0+5,none⟩:=by unfold Addr.add;simp
 simp only[hadd]at hY;obtain⟨J,hJ⟩:∃J,J=Hs.join k ps (Tr.seen x) (Tr.seen y) L R:=⟨_,rfl⟩
 have CJ:=J1 (fun W (h:Below W0 W0 W) =>
  have hbw:=J5 hb0 h
  (A7a k d (.slice P0 ps.length p0) (.slice L0 L.length c0) (.slice R0 R.length c1) ps L R (Tr.seen x) (Tr.seen y) W (hp.below hbw (C3 _)) hsz (hW.below hbw (C3 _)) (hP.below hbw (C3 _)) (hl.below hbw (C3 _)) (hr.below hbw (C3 _)) hfl hfr hwl hwr (Tr.seen_lt x) (Tr.seen_lt y)).mono fun e w' ho =>
   (show ∃A2 a2,e=Ending.returned (.slice A2 J.length a2)∧Hid (OwnTus w J (.returned (.slice A2 J.length a2)) w')∧Below W0 W0 w' from by
    rw[←hJ]at ho;have h5:=ho.up hbw;obtain⟨A2,a2,us,rfl,_,_,h6⟩:=ho;exact⟨A2,a2,rfl,J1 h5,J5 h h6⟩))
 rw[←hJ];have C0:=J1 (fun W (h:Below W0 W0 W)=>(Z9q _ x _ (.slice B7 x.cs.length d7) W (hX W h).2.2 (hX W h).2.1).mono fun e w' ⟨he,hb⟩=>(⟨he,J5 h hb⟩:e=_∧Below W0 W0 w'));have C1:=J1 (fun W (h:Below W0 W0 W)=>(Z9q _ y _ (.slice B9 y.cs.length d9) W (hY W h).2.2 (hY W h).2.1).mono fun e w' ⟨he,hb⟩=>(⟨he,J5 h hb⟩:e=_∧Below W0 W0 w'));obtain⟨pl,hpl⟩:∃n,n=ps.length:=⟨_,rfl⟩;rw[←hpl]at CJ l0 hW0 ⊢
 have KK:=J1 (fun W (h:Below W0 W0 W)=>(show(W.cell? ⟨w.heap.size,0,none⟩=some (.int .i64 k)∧W.cell? ⟨w.heap.size,2,none⟩=some (.slice (some ⟨b0,o0,s0⟩) 2 c)∧W.cell? ⟨w.heap.size,3,none⟩=some (.slice P0 pl p0)∧W.cell? (⟨b0,o0,s0⟩:Addr)=some (.int .i64 x.k)∧W.cell? ⟨(⟨b0,o0,s0⟩:Addr).block,(⟨b0,o0,s0⟩:Addr).off+1,none⟩=some (.int .i64 x.t)∧W.cell? ⟨(⟨b0,o0,s0⟩:Addr).block,(⟨b0,o0,s0⟩:Addr).off+2,none⟩=some (.slice B6 x.ks.length d6)∧W.cell? ⟨(⟨b0,o0,s0⟩:Addr).block,(⟨b0,o0,s0⟩:Addr).off+3,none⟩=some (.slice B7 x.cs.length d7)∧W.cell? ⟨(⟨b0,o0,s0⟩:Addr).block,(⟨b0,o0,s0⟩:Addr).off+4,none⟩=some (.bool x.h)∧W.cell? ⟨b0,o0+5,none⟩=some (.int .i64 y.k)∧W.cell? ⟨b0,o0+5+1,none⟩=some (.int .i64 y.t)∧W.cell? ⟨b0,o0+5+2,none⟩=some (.slice B8 y.ks.length d8)∧W.cell? ⟨b0,o0+5+3,none⟩=some (.slice B9 y.cs.length d9)∧W.cell? ⟨b0,o0+5+4,none⟩=some (.bool y.h))∧Below W0 W0 W from
  have px:=(hX W h).1;have py:=(hY W h).1;have l:=l0.below h l0.lt
  ⟨⟨l.c 0 rfl,l.c 2 rfl,l.c 3 rfl,px.c0,px.c1,px.c2,px.c3,px.c4,py.c0,py.c1,py.c2,py.c3,py.c4⟩,h⟩))
 have HW:=J1 hW0;have hS:=Below.refl W0 W0;obtain⟨xs,hxs⟩:∃s,s=Tr.seen x:=⟨_,rfl⟩;obtain⟨ys,hys⟩:∃s,s=Tr.seen y:=⟨_,rfl⟩;rw[←hxs]at C0 CJ;rw[←hys]at C1 CJ;generalize L.length=ll at *;generalize R.length=rl at *;clear hp hsz hW hP hl hr hfl hfr hwl hwr hu hts hX hY hW0 l0 hb0 hJ hpl hA8 hadd hxs hys hb0l;go_enter Tryz.func91,Tryz.ntmps91
 go_upto_region 1 with(fail)
 rw[←HW.out]
 go_region_held3 (fun W=>(W.cell? ⟨w.heap.size,0,none⟩=some (.int .i64 k)∧W.cell? ⟨w.heap.size,2,none⟩=some (.slice (some ⟨b0,o0,s0⟩) 2 c)∧W.cell? ⟨w.heap.size,3,none⟩=some (.slice P0 pl p0)∧W.cell? (⟨b0,o0,s0⟩:Addr)=some (.int .i64 x.k)∧W.cell? ⟨(⟨b0,o0,s0⟩:Addr).block,(⟨b0,o0,s0⟩:Addr).off+1,none⟩=some (.int .i64 x.t)∧W.cell? ⟨(⟨b0,o0,s0⟩:Addr).block,(⟨b0,o0,s0⟩:Addr).off+2,none⟩=some (.slice B6 x.ks.length d6)∧W.cell? ⟨(⟨b0,o0,s0⟩:Addr).block,(⟨b0,o0,s0⟩:Addr).off+3,none⟩=some (.slice B7 x.cs.length d7)∧W.cell? ⟨(⟨b0,o0,s0⟩:Addr).block,(⟨b0,o0,s0⟩:Addr).off+4,none⟩=some (.bool x.h)∧W.cell? ⟨b0,o0+5,none⟩=some (.int .i64 y.k)∧W.cell? ⟨b0,o0+5+1,none⟩=some (.int .i64 y.t)∧W.cell? ⟨b0,o0+5+2,none⟩=some (.slice B8 y.ks.length d8)∧W.cell? ⟨b0,o0+5+3,none⟩=some (.slice B9 y.cs.length d9)∧W.cell? ⟨b0,o0+5+4,none⟩=some (.bool y.h))∧Below W0 W0 W) (first | (exact KK.out _ (by repeat first | assumption | refine Below.drew ?_)))
  (first
   | (go_at_call 26;(with_reducible refine(C0.out _ (by repeat first | assumption | refine Below.drew ?_)).mono ?_);rintro e w' ⟨rfl,hS'⟩)
   | (go_at_call 26;(with_reducible refine(C1.out _ (by repeat first | assumption | refine Below.drew ?_)).mono ?_);rintro e w' ⟨rfl,hS'⟩)
   | (go_at_call 113;(with_reducible refine(CJ.out _ (by repeat first | assumption | refine Below.drew ?_)).mono ?_);rintro e w' ⟨A2,a2,rfl,hO,hS'⟩)
   | (fail "no arm"))
 all_goals
  go_wp2_with fail;go_ret;exact hO.out
theorem OwnTus.none_ {w w':World} (hb:Below w w w'):OwnTus w [] (.returned (.slice none 0 0)) w' :=
 ⟨none,0,[],rfl,⟨World.ownsRow_nil _ _ _ _,rfl,fun i t h=>by simp at h⟩,C3 _,hb⟩
theorem Ex.Ok.wf {M:Nat} {cols:List Int} {d:List (List (List Vl))} {a:Tr} (h:Ex.Ok M cols d a):Hs.Wf (Ex.tuples d a):=fun t ht x hx v hv =>
 (Ex.tuples_fit h.fine h.len a h.good t ht).wf x hx v hv
theorem Ex.Ok.leaf {M:Nat} {cols:List Int} {d:List (List (List Vl))} {a:Tr} (h:Ex.Ok M cols d a) (hk:a.k=0):∃(tn:Nat) (rs:List (List Vl)),a.t=(tn:Int)∧d[tn]?=some rs∧tn<64∧rs.length≤M∧∀x∈rs,x.length≤4:=by
 obtain⟨h1,_,h2,h3⟩:=h.good.leaf hk;obtain⟨tn,htn⟩:∃tn:Nat,a.t=(tn:Int):=⟨a.t.toNat,(Int.toNat_of_nonneg h2).symm⟩
 have hlt:tn<d.length:=by have:=h.len;omega
 have h64:=h.fine.1;have hm:=h.most;rw[Ex.all_leaf h1]at hm;have hm2:Ex.cnt d a*1≤M:=hm;unfold Ex.cnt at hm2
 rw[if_pos ⟨hk,h2,by omega⟩,htn,Int.toNat_natCast,A8 hlt]at hm2
 have hm3:max 1 d[tn].length*1≤M:=hm2
 refine⟨tn,_,htn,A8 hlt,by omega,by omega,fun x hx=>(h.fine.2 _ (List.getElem_mem hlt) x hx).1⟩
theorem A1x (k t:Int) (A B:Option Addr) (n c m e:Nat) (h:Bool) (f:Nat) (X:Value) (W:World):(Instr.field 99 (.agg #[k,t,.slice A n c,.slice B m e,h,.func (.func f) #[X] #[]]) 1).run Tryz.prog W=.ok (.func (.func f) #[X] #[]) W:=by
 simp[Instr.field,go_sem,asAgg]
theorem A3N (cols:List Int) (D:List (List (List Vl))) (dv:Value) (dd:Nat):∀(a:Tr) (u v:Value) (w:World),TsAt dd w u a.ks→PsSome w v a.cs→Ex.Ok 10000 cols D a→Dts w dv D→Want w→Pows w →
  Calls Tryz.prog 27 #[.agg #[a.k,a.t,u,v,a.h],dv] w (OwnTus w (Ex.tuples D a)):=by
 induction dd using Nat.strongRecOn with
 | _ dd ih =>
 intro a u v w hu hv hok hd hW hP;obtain⟨W0,hW0⟩:∃W0,W0=w.alloc (Obj.cells #[a.k,a.t,u,v,a.h] 26):=⟨_,rfl⟩;obtain⟨l0,pc,hb0⟩:=A0a (a:=a) (u:=u) (v:=v) hW0;have hd0:=hd.below hb0 (C3 _);obtain⟨d',hv⟩:=hv;have hv':=hv.below hb0 (C3 _);obtain⟨P0,p0,rfl,_⟩:=hv.form
 by_cases hk:a.k=0
 ·obtain⟨tn,rs,htn,hg,h64,hrs,hx⟩:=hok.leaf hk
  have cl:=A51 tn dv D rs W0 hd0 hg h64 hrs (fun x hx'=>by have:=hx x hx';omega)
  rw[Ex.tuples_leaf hk,htn];obtain⟨A,c,rfl,_⟩:=hu.form;obtain⟨x0,x1,_,_,_⟩:=pc;rw[hk]at x0;rw[htn]at x1;obtain⟨DA,dc,rfl,_⟩:=id hd;have HB:=J1 hb0;rw[hk,htn]at hW0;have HW:=J1 hW0;rw[hk];obtain⟨ah,hah⟩:∃z,z=a.h:=⟨_,rfl⟩;rw[←hah]at HW ⊢;generalize a.ks.length=kl at *;generalize a.cs.length=cl' at *;generalize D.length=dl at *;clear hu hv hok hd hW hP hW0 l0 hb0 hd0 hv' hg hrs hx ih hk htn hah;go_enter Tryz.func27,Tryz.ntmps27
  go_upto_region 1 with(fail)
  rw[←HW.out];go_wp2_with fail;refine cl.mono ?_;rintro E w2 ho;have HO:=J1 (ho.up HB.out);obtain⟨A2,a2,_,rfl,_,_,_⟩:=ho;clear cl x0 x1;go_wp2_with fail;go_ret;exact HO.out
 ·obtain⟨x,y,hks,_⟩:=hok.good.op hk;obtain⟨hokx,hoky⟩:=hok.kids hk hks;have HJN:=J1 (Ex.tuples_op (d:=D) hk hks).symm;have HJH:=J1 (hok.hash hk hks)
  have HSZ:=J1 (show Pr.sizes a.cs≤1000 by have h1:=Tr.size_at a;have:=hok.size;omega)
  have HFEW:=J1 (J0 (hokx.few (C3 _)) (hoky.few (C3 _)));have HWF:=J1 (J0 hokx.wf hoky.wf);rw[hks]at hu;obtain⟨A,c,hu0,_⟩:=hu.form;change u=.slice A 2 c at hu0;subst hu0;have hts:TsAt dd W0 (.slice A ([x,y]:List Tr).length c) [x,y]:=hu.below hb0 (C3 _);obtain⟨e6,b0,o0,s0,u6,v6,hlt6,rfl,hb0l,hX⟩:=hts.at_ (j:=0) (a:=x) rfl;obtain⟨e8,b0',o0',s0',u8,v8,hlt8,hA8,_,hY⟩:=hts.at_ (j:=1) (a:=y) rfl
  obtain⟨rfl,rfl,rfl⟩:b0=b0'∧o0=o0'∧s0=s0':=by
   simp only[Option.some.injEq,Addr.mk.injEq]at hA8;exact hA8
  obtain⟨B6,d6,rfl,_⟩:=(hX W0 (Below.refl _ _)).2.2.form;obtain⟨B7,d7,rfl,_⟩:=(hX W0 (Below.refl _ _)).2.1.elim fun d h=>h.form;obtain⟨B8,d8,rfl,_⟩:=(hY W0 (Below.refl _ _)).2.2.form;obtain⟨B9,d9,rfl,_⟩:=(hY W0 (Below.refl _ _)).2.1.elim fun d h=>h.form;simp only[Nat.zero_mul,R3]at hX
  have hadd:(⟨b0,o0,s0⟩:Addr).add (1*5)=⟨b0,o0+5,none⟩:=by unfold Addr.add;simp
  simp only[hadd]at hY;have HWP:=J1 (J0 (hW.below hb0 (C3 _)) (hP.below hb0 (C3 _)));have cx:=ih e6 hlt6 x _ (.slice B7 x.cs.length d7) W0 (hX W0 (Below.refl _ _)).2.2 (hX W0 (Below.refl _ _)).2.1 hokx hd0 HWP.out.1 HWP.out.2;have px:=(hX W0 (Below.refl _ _)).1;obtain⟨y0,y1,y2,y3,y4⟩:=px;have CT:=J1 (fun W (h:Below W0 W0 W)=>ih e8 hlt8 y _ (.slice B9 y.cs.length d9) W (hY W h).2.2 (hY W h).2.1 hoky (hd0.below h (C3 _)) (HWP.out.1.below h (C3 _)) (HWP.out.2.below h (C3 _)));have HY:=J1 hY;obtain⟨x0,x1,x2,x3,x4⟩:=id pc;obtain⟨DA,dc,rfl,_⟩:=id hd;obtain⟨ak,hak⟩:∃z,z=a.k:=⟨_,rfl⟩;obtain⟨at_,hat⟩:∃z,z=a.t:=⟨_,rfl⟩;obtain⟨ah,hah⟩:∃z,z=a.h:=⟨_,rfl⟩;have HK:=J1 hak;have HT:=J1 hat;have HH0:=J1 hah;have HPC:=J1 pc;have HLT:=J1 l0.lt;have HB0:=J1 hb0
  have hak0:(ak == 0)=false:=by rw[hak];simpa using hk
  rw[←hak]at hW0 x0 ⊢;rw[←hat]at hW0 x1 ⊢;rw[←hah]at hW0 x4 ⊢;obtain⟨pl,hpl⟩:∃z,z=a.cs.length:=⟨_,rfl⟩;have HPL:=J1 hpl;rw[←hpl]at hW0 x3 ⊢;have HW:=J1 hW0;obtain⟨n1,hn1⟩:∃n,n=(Ex.tuples D x).length:=⟨_,rfl⟩;obtain⟨JL,hJL⟩:∃n,n=(Ex.tuples D a).length:=⟨_,rfl⟩;have HJL:=J1 hJL;have HN1:=J1 hn1;obtain⟨n2,hn2⟩:∃n,n=(Ex.tuples D y).length:=⟨_,rfl⟩;have HN2:=J1 hn2
  have HJ0:=J1 (show n1=0→Ex.tuples D a=[] from fun h=>by
   rw[←HJN.out,D6 (show(Ex.tuples D x).length=0 by rw[←hn1];exact h)];rfl)
  have i0:(0:Int)≤0:=by omega
  clear hu hv hok hd hW hP hW0 l0 hb0 hd0 hX ih hk hak hat hah hks hn1 hn2 hJL hpl hokx hoky pc hA8 hadd hb0l;go_enter Tryz.func27,Tryz.ntmps27
  go_upto_region 1 with(fail)
  rw[←HW.out];go_wp2_with fail;refine cx.mono ?_;rintro E w1 ⟨A1,a1,us1,rfl,hT1,ha1,hb01⟩;have hl1:=hT1.tus;rw[←HN1.out]at hl1 ⊢;clear cx hT1 ha1 x0 x1 x2 x3 x4 y0 y1 y2 y3 y4;have q2:=(HPC.out.below hb01 HLT.out).c2
  by_cases hn0:n1=0
  ·have HRES:=J1 (show OwnTus w (Ex.tuples D a) (.returned (.slice none 0 0)) w1 from by
    rw[HJ0.out hn0];exact OwnTus.none_ (J5 HB0.out hb01))
   subst hn0;clear hl1 hb01 hts hv';go_wp2_with fail;go_ret;exact HRES.out
  have hn3:((n1:Int) == 0)=false:=by simpa using hn0
  have CT:=J1 (fun W (h:Below w1 w1 W)=>(CT.out W (J5 hb01 h)).mono fun e w' ho =>
   (show ∃A3 a3,e=Ending.returned (.slice A3 n2 a3)∧Hid (TusOn Al w' (.slice A3 n2 a3) (Ex.tuples D y))∧Below w1 w1 w' from by
    obtain⟨A3,a3,us3,rfl,h4,_,h6⟩:=ho;rw[HN2.out];exact⟨A3,a3,rfl,J1 h4.tus,J5 h h6⟩))
  have hcase:a.h=false∨a.h=true:=by cases a.h <;> simp
  rcases hcase with HH | HH
  ·obtain rfl:ah=false:=HH0.out.trans HH;have HH:=J1 HH
   have CJ:=J1 (fun W (rv:Value) (h:Below w1 w1 W) (hr:TusOn Al W rv (Ex.tuples D y)) =>
    have hb0W:=J5 hb01 h;have hbwW:=J5 HB0.out hb0W
    (A3n ak at_ (some ⟨b0,o0,s0⟩) 2 c d' (.slice P0 a.cs.length p0) (.slice A1 n1 a1) rv a.cs (Ex.tuples D x) (Ex.tuples D y) W (hv'.below hb0W (C3 _)) HSZ.out (HWP.out.1.below hb0W (C3 _)) (hl1.below h (C3 _)) hr HFEW.out.1 HFEW.out.2).mono fun e w' ho =>
     (show ∃A2 a2,e=Ending.returned (.slice A2 JL a2)∧Hid (OwnTus w (Ex.tuples D a) (.returned (.slice A2 JL a2)) w')∧Below w1 w1 w' from by
      rw[HK.out,HJN.out]at ho;have h5:=ho.up hbwW;obtain⟨A2,a2,us,rfl,_,_,h6⟩:=ho;rw[HJL.out];exact⟨A2,a2,rfl,J1 h5,J5 h h6⟩))
   have CO:=J1 (fun W (h:Below w1 w1 W)=>(A3i ak at_ (some ⟨b0,o0,s0⟩) P0 2 c pl p0 W).mono fun e w' ⟨he,hb⟩=>(⟨he,J5 h hb⟩:e=_∧Below w1 w1 w'))
   have KK:=J1 (fun W (h:Below w1 w1 W)=>(show(W.cell? ⟨w.heap.size,0,none⟩=some (.int .i64 ak)∧W.cell? ⟨w.heap.size,1,none⟩=some (.int .i64 at_)∧W.cell? ⟨w.heap.size,2,none⟩=some (.slice (some ⟨b0,o0,s0⟩) 2 c)∧W.cell? ⟨w.heap.size,3,none⟩=some (.slice P0 pl p0)∧W.cell? ⟨w.heap.size,4,none⟩=some (.bool false)∧W.cell? ⟨b0,o0+5,none⟩=some (.int .i64 y.k)∧W.cell? ⟨b0,o0+5+1,none⟩=some (.int .i64 y.t)∧W.cell? ⟨b0,o0+5+2,none⟩=some (.slice B8 y.ks.length d8)∧W.cell? ⟨b0,o0+5+3,none⟩=some (.slice B9 y.cs.length d9)∧W.cell? ⟨b0,o0+5+4,none⟩=some (.bool y.h))∧Below w1 w1 W from
    have hb0W:=J5 hb01 h;have py:=(HY.out W hb0W).1;have p:=HPC.out.below hb0W HLT.out
    ⟨⟨by rw[HK.out];exact p.c0,by rw[HT.out];exact p.c1,p.c2,by rw[HPL.out];exact p.c3,by rw[←HH.out];exact p.c4,py.c0,py.c1,py.c2,py.c3,py.c4⟩,h⟩))
   rw[←HPL.out]at CJ;have hS:=Below.refl w1 w1;have hfld:=fun(h:Bool) (f:Nat) (X:Value) (W:World)=>A1x ak at_ (some ⟨b0,o0,s0⟩) P0 2 c pl p0 h f X W;clear hl1 hb01
   go_upto_region 8 with(fail)
   go_region_held3 (fun W=>(W.cell? ⟨w.heap.size,0,none⟩=some (.int .i64 ak)∧W.cell? ⟨w.heap.size,1,none⟩=some (.int .i64 at_)∧W.cell? ⟨w.heap.size,2,none⟩=some (.slice (some ⟨b0,o0,s0⟩) 2 c)∧W.cell? ⟨w.heap.size,3,none⟩=some (.slice P0 pl p0)∧W.cell? ⟨w.heap.size,4,none⟩=some (.bool false)∧W.cell? ⟨b0,o0+5,none⟩=some (.int .i64 y.k)∧W.cell? ⟨b0,o0+5+1,none⟩=some (.int .i64 y.t)∧W.cell? ⟨b0,o0+5+2,none⟩=some (.slice B8 y.ks.length d8)∧W.cell? ⟨b0,o0+5+3,none⟩=some (.slice B9 y.cs.length d9)∧W.cell? ⟨b0,o0+5+4,none⟩=some (.bool y.h))∧Below w1 w1 W) (first | (exact KK.out _ (by repeat first | assumption | refine Below.drew ?_)))
    (first
     | (go_at_call 48;(with_reducible refine(CO.out _ (by repeat first | assumption | refine Below.drew ?_)).mono ?_);rintro e w' ⟨rfl,hS'⟩)
     | (go_at_call 27;(with_reducible refine(CT.out _ (by repeat first | assumption | refine Below.drew ?_)).mono ?_);rintro e w' ⟨A3,a3,rfl,hTR,hS'⟩)
     | (go_at_call 90;(with_reducible refine(CJ.out _ _ (by repeat first | assumption | refine Below.drew ?_) (hTR.out)).mono ?_);rintro e w' ⟨A2,a2,rfl,hO,hS'⟩)
     | (fail "no arm"))
   all_goals
    go_wp2_with fail;go_ret;exact hO.out
  ·obtain rfl:ah=true:=HH0.out.trans HH;have HH:=J1 HH
   have CJ:=J1 (fun W (rv:Value) (h:Below w1 w1 W) (hr:TusOn Al W rv (Ex.tuples D y)) =>
    have hb0W:=J5 hb01 h;have hbwW:=J5 HB0.out hb0W
    (A3x ak at_ d' dd (.slice (some ⟨b0,o0,s0⟩) 2 c) (.slice P0 a.cs.length p0) (.slice A1 n1 a1) rv x y a.cs (Ex.tuples D x) (Ex.tuples D y) W (hts.below hb0W (C3 _)) (hv'.below hb0W (C3 _)) HSZ.out (HWP.out.1.below hb0W (C3 _)) (HWP.out.2.below hb0W (C3 _)) (hl1.below h (C3 _)) hr HFEW.out.1 HFEW.out.2 HWF.out.1 HWF.out.2).mono fun e w' ho =>
     (show ∃A2 a2,e=Ending.returned (.slice A2 JL a2)∧Hid (OwnTus w (Ex.tuples D a) (.returned (.slice A2 JL a2)) w')∧Below w1 w1 w' from by
      rw[HK.out,HJH.out]at ho;have h5:=ho.up hbwW;obtain⟨A2,a2,us,rfl,_,_,h6⟩:=ho;rw[HJL.out];exact⟨A2,a2,rfl,J1 h5,J5 h h6⟩))
   have CO:=J1 (fun W (h:Below w1 w1 W)=>(A3j ak at_ (some ⟨b0,o0,s0⟩) P0 2 c pl p0 W).mono fun e w' ⟨he,hb⟩=>(⟨he,J5 h hb⟩:e=_∧Below w1 w1 w'))
   have KK:=J1 (fun W (h:Below w1 w1 W)=>(show(W.cell? ⟨w.heap.size,0,none⟩=some (.int .i64 ak)∧W.cell? ⟨w.heap.size,1,none⟩=some (.int .i64 at_)∧W.cell? ⟨w.heap.size,2,none⟩=some (.slice (some ⟨b0,o0,s0⟩) 2 c)∧W.cell? ⟨w.heap.size,3,none⟩=some (.slice P0 pl p0)∧W.cell? ⟨w.heap.size,4,none⟩=some (.bool true)∧W.cell? ⟨b0,o0+5,none⟩=some (.int .i64 y.k)∧W.cell? ⟨b0,o0+5+1,none⟩=some (.int .i64 y.t)∧W.cell? ⟨b0,o0+5+2,none⟩=some (.slice B8 y.ks.length d8)∧W.cell? ⟨b0,o0+5+3,none⟩=some (.slice B9 y.cs.length d9)∧W.cell? ⟨b0,o0+5+4,none⟩=some (.bool y.h))∧Below w1 w1 W from
    have hb0W:=J5 hb01 h;have py:=(HY.out W hb0W).1;have p:=HPC.out.below hb0W HLT.out
    ⟨⟨by rw[HK.out];exact p.c0,by rw[HT.out];exact p.c1,p.c2,by rw[HPL.out];exact p.c3,by rw[←HH.out];exact p.c4,py.c0,py.c1,py.c2,py.c3,py.c4⟩,h⟩))
   rw[←HPL.out]at CJ;have hS:=Below.refl w1 w1;have hfld:=fun(h:Bool) (f:Nat) (X:Value) (W:World)=>A1x ak at_ (some ⟨b0,o0,s0⟩) P0 2 c pl p0 h f X W;clear hl1 hb01
   go_upto_region 8 with(fail)
   go_region_held3 (fun W=>(W.cell? ⟨w.heap.size,0,none⟩=some (.int .i64 ak)∧W.cell? ⟨w.heap.size,1,none⟩=some (.int .i64 at_)∧W.cell? ⟨w.heap.size,2,none⟩=some (.slice (some ⟨b0,o0,s0⟩) 2 c)∧W.cell? ⟨w.heap.size,3,none⟩=some (.slice P0 pl p0)∧W.cell? ⟨w.heap.size,4,none⟩=some (.bool true)∧W.cell? ⟨b0,o0+5,none⟩=some (.int .i64 y.k)∧W.cell? ⟨b0,o0+5+1,none⟩=some (.int .i64 y.t)∧W.cell? ⟨b0,o0+5+2,none⟩=some (.slice B8 y.ks.length d8)∧W.cell? ⟨b0,o0+5+3,none⟩=some (.slice B9 y.cs.length d9)∧W.cell? ⟨b0,o0+5+4,none⟩=some (.bool y.h))∧Below w1 w1 W) (first | (exact KK.out _ (by repeat first | assumption | refine Below.drew ?_)))
    (first
     | (go_at_call 48;(with_reducible refine(CO.out _ (by repeat first | assumption | refine Below.drew ?_)).mono ?_);rintro e w' ⟨rfl,hS'⟩)
     | (go_at_call 27;(with_reducible refine(CT.out _ (by repeat first | assumption | refine Below.drew ?_)).mono ?_);rintro e w' ⟨A3,a3,rfl,hTR,hS'⟩)
     | (go_at_call 91;(with_reducible refine(CJ.out _ _ (by repeat first | assumption | refine Below.drew ?_) (hTR.out)).mono ?_);rintro e w' ⟨A2,a2,rfl,hO,hS'⟩)
     | (fail "no arm"))
   all_goals
    go_wp2_with fail;go_ret;exact hO.out
structure RwRow (R:Nat→Prop) (base:Nat) (w:World) (v:Value) (n:Nat) (us:List Value) (rs:List (List Vl)):Prop where
 own:w.ownsRow base 63 1 v n us
 len:rs.length=n
 row:∀(i:Nat) (r:List Vl),rs[i]?=some r→∃u,us[i]?=some u∧RowOn (fun k=>v.ownBlock≠some k∧R k) w u r
theorem RwRow.below {R:Nat→Prop} {base n:Nat} {w w':World} {v:Value} {us:List Value} {rs:List (List Vl)} (h:RwRow R base w v n us rs) (hb:Below w w w'):RwRow R base w' v n us rs :=
 ⟨Q9 h.own (T2 hb) (fun k hk=>(h.own.lt k hk).2),h.len,fun i t hi=>by obtain⟨u,hu,hr⟩:=h.row i t hi;exact⟨u,hu,hr.below hb (C3 _)⟩⟩
theorem RwRow.push {R:Nat→Prop} {base n:Nat} {w w':World} {v:Value} {us:List Value} {rs:List (List Vl)} {v' u:Value} {r:List Vl} (h:RwRow R base w v n us rs) (hu:RowOn (fun k=>v.ownBlock≠some k∧R k) w u r)
  (hown:w'.ownsRow base 63 1 v' (n+1) (us++[u])) (hg:w.grownBy w' v.ownBlock) (hw:v'.ownBlock=v.ownBlock∨∃g,v'.ownBlock=some g∧w.heap.size≤g):RwRow R base w' v' (n+1) (us++[u]) (rs++[r]):=by
 have hkp:∀{x:Value} {y:List Vl},RowOn (fun k=>v.ownBlock≠some k∧R k) w x y→RowOn (fun k=>v'.ownBlock≠some k∧R k) w' x y:=fun {x y} hx=>by
  have h1:RowOn (fun k=>(v.ownBlock≠some k∧R k)∧k<w.heap.size) w x y:=hx.mono fun k hk1 hk2=>⟨hk2,hk1⟩;refine(h1.keep (S9 hg) fun _ _ hk2=>hk2.1.1).mono fun _ _ hk2=>⟨?_,hk2.1.2⟩
  rcases hw with e | ⟨g,e,hge⟩
  ·rw[e];exact hk2.1.1
  ·rw[e];intro e2;cases e2;have:=hk2.2;omega
 have hul:us.length=n:=by have:=h.own.1;omega
 refine⟨hown,by rw[C6,h.len];rfl,fun i x hi=>?_⟩
 by_cases e:i<rs.length
 ·rw[F2 e]at hi;obtain⟨y,hy,hr⟩:=h.row i x hi
  exact⟨y,by rw[F2 (by rw[hul,←h.len];exact e)];exact hy,hkp hr⟩
 ·have hi2:i=rs.length:=by
   by_cases e2:i=rs.length
   ·exact e2
   ·rw[E6 (by simp;omega)]at hi;cases hi
  subst hi2;rw[E8 (C3 _),Nat.sub_self]at hi;cases hi;refine⟨u,?_,hkp hu⟩
  rw[E8 (by rw[hul,h.len];exact C3 _),hul,h.len,Nat.sub_self]
  rfl
theorem RwRow.rws {R:Nat→Prop} {base n:Nat} {w:World} {v:Value} {us:List Value} {rs:List (List Vl)} (h:RwRow R base w v n us rs):Rws w v rs :=
 ⟨us,(SlOn.own h.own).sl,by have:=h.own.1;have:=h.len;omega,fun i r hi=>by obtain⟨u,hu,hr⟩:=h.row i r hi;exact⟨u,hu,hr.at_⟩⟩
def Ex.run (cols:List Int) (a:Tr) (d:List (List (List Vl))):List (List Vl):=if Ck.data cols a d=0 then Ex.rows cols a d else []
def RunIs (w:World) (cols:List Int) (a:Tr) (d:List (List (List Vl))) (E:Ending) (w':World):Prop :=
 ∃A c,E=.returned (.tuple #[.slice A (Ex.run cols a d).length c,.int .i64 (Ck.data cols a d)])∧Rws w' (.slice A (Ex.run cols a d).length c) (Ex.run cols a d)∧Below w w w'
theorem Ex.rows_take {cols:List Int} {a:Tr} {d:List (List (List Vl))} {q:Nat} {t:List (List Vl)} (h:(Ex.tuples d a)[q]?=some t) :
  ((Ex.tuples d a).take (q+1)).map (fun t=>Mt.flat t (Tr.seen a) cols)=((Ex.tuples d a).take q).map (fun t=>Mt.flat t (Tr.seen a) cols)++[Mt.flat t (Tr.seen a) cols]:=by
 rw[D7,h];simp
theorem A4w (a:Tr) (cols:List Int) (cv u v dv:Value) (D:List (List (List Vl))) (w:World) (hc:Sl w cv (cols.map (Value.int .i64))) (hu:∃d,TsAt d w u a.ks) (hv:PsSome w v a.cs) (hd:Dts w dv D) (hsz:Tr.size a≤1000) (hW:Want w) (hP:Pows w) (hT:Tab w)
  (hok:Ck.data cols a D=0→Ex.Ok 10000 cols D a) :
  Calls Tryz.prog 7 #[.agg #[cv,a.k,a.t,u,v,a.h],dv] w (RunIs w cols a D):=by
 obtain⟨i0,hi,hz0,hz1,hz2⟩:=info_parts Tryz.infoRow13;obtain⟨A,c,rfl,_⟩:=hu.elim fun d h=>h.form;obtain⟨A',c',rfl,_⟩:=hv.elim fun d h=>h.form;obtain⟨W0,hW0⟩:∃W0,W0=w.alloc (Obj.cells #[cv,a.k,a.t,.slice A a.ks.length c,.slice A' a.cs.length c',a.h] 28):=⟨_,rfl⟩;obtain⟨l0,hb0⟩:=L5 (cs:=[cv,a.k,a.t,.slice A a.ks.length c,.slice A' a.cs.length c',a.h]) hW0;have cd:=A5S a cols cv _ _ dv D W0 (hc.below hb0 (C3 _)) (hu.elim fun d h=>⟨d,h.below hb0 (C3 _)⟩) (hv.below hb0 (C3 _)) (hd.below hb0 (C3 _)) hsz
 obtain⟨cA,cn,cc,rfl⟩:∃cA cn cc,cv=.slice cA cn cc:=by obtain⟨A,c,h,_⟩:=hc;exact⟨A,_,c,h⟩
 obtain⟨DA,dc,rfl,_⟩:=id hd;obtain⟨z,hz⟩:∃z,z=Ck.data cols a D:=⟨_,rfl⟩;have x:=fun(W:World) (h:Below W0 W0 W)=>l0.below h l0.lt;have x0:=l0.c 0 rfl;have x1:=l0.c 1 rfl;have x2:=l0.c 2 rfl;have x3:=l0.c 3 rfl;have x4:=l0.c 4 rfl;have x5:=l0.c 5 rfl;have HX:=J1 x;have HB0:=J1 hb0;have HW:=J1 hW0;have HZ:=J1 hz;rw[←hz]at cd
 by_cases hz0:z=0
 ·have hok:=hok (HZ.out.symm.trans hz0);have hrun:Ex.run cols a D=Ex.rows cols a D:=if_pos (HZ.out.symm.trans hz0)
  have CS:=J1 (fun W (h:Below W0 W0 W)=>have hbw:=J5 hb0 h;hu.elim fun d hd=>Z9q d a _ (.slice A' a.cs.length c') W (hd.below hbw (C3 _)) (hv.below hbw (C3 _)))
  have CT:=J1 (fun W (h:Below W0 W0 W)=>have hbw:=J5 hb0 h;hu.elim fun d hu=>A3N cols D (.slice DA D.length dc) d a _ (.slice A' a.cs.length c') W (hu.below hbw (C3 _)) (hv.below hbw (C3 _)) hok (hd.below hbw (C3 _)) (hW.below hbw (C3 _)) (hP.below hbw (C3 _)))
  have CF:=J1 (fun W (h:Below W0 W0 W) (tv:Value) (t:List (List Vl)) (ht:RwsOn Al W tv t) (hm:t∈Ex.tuples D a) =>
   have hbw:=J5 hb0 h;have hf:=Ex.tuples_fit hok.fine hok.len a hok.good t hm
   A8E tv (.slice cA cn cc) t (Tr.seen a) cols W ht (Tr.seen_lt a) (hc.below hbw (C3 _)) (by have:=hf.len;omega) (fun r hr=>by have:=hf.row r hr;omega) (by have:=hok.len;have:=hok.fine.1;omega) (fun x hx=>by
    have:=(Ck.query_zero (show Ck.query cols a=0 from by
     have h0:=HZ.out.symm.trans hz0;unfold Ck.data at h0
     split at h0
     ·rename_i hq;exact absurd h0 hq
     ·rename_i hq;exact Decidable.not_not.1 hq)).2 x hx
    omega) (hT.below hbw))
  have HLEN:=J1 ((hok.few (C3 _)).len);have HRUN:=J1 hrun;have HTK:=J1 (fun q t (h:(Ex.tuples D a)[q]?=some t)=>Ex.rows_take (cols:=cols) h);subst hz0;clear hc hu hv hd hsz hW hP hT hok hW0 l0 hb0 hz hrun x;generalize a.ks.length=kl at *;generalize a.cs.length=cl at *;generalize D.length=dl at *;obtain⟨ak,hak⟩:∃z,z=a.k:=⟨_,rfl⟩;obtain⟨at_,hat⟩:∃z,z=a.t:=⟨_,rfl⟩;obtain⟨ah,hah⟩:∃z,z=a.h:=⟨_,rfl⟩;rw[←hak,←hat,←hah]at cd CS CT HW HX ⊢;rw[←hak]at x1;rw[←hat]at x2;rw[←hah]at x5;clear hak hat hah;go_enter Tryz.func7,Tryz.ntmps7
  go_upto_region 1 with(fail)
  rw[←HW.out];go_wp2_with fail;refine cd.mono ?_;rintro E w1 ⟨rfl,hb1⟩;have cs:=CS.out w1 hb1;have l1:=HX.out w1 hb1;have x1:=l1.c 1 rfl;have x2:=l1.c 2 rfl;have x3:=l1.c 3 rfl;have x4:=l1.c 4 rfl;have x5:=l1.c 5 rfl;clear cd l1;go_wp2_with fail;refine cs.mono ?_;rintro E w2 ⟨rfl,hb2⟩;have hb02:=J5 hb1 hb2;have ct:=CT.out w2 hb02;have l1:=HX.out w2 hb02;have x1:=l1.c 1 rfl;have x2:=l1.c 2 rfl;have x3:=l1.c 3 rfl;have x4:=l1.c 4 rfl;have x5:=l1.c 5 rfl;clear cs l1 hb1 hb2;go_wp2_with fail;refine ct.mono ?_;rintro E w3 ⟨A1,a1,us1,rfl,hT1,ha1,hb3⟩;have HT1:=J1 hT1.tus;have hb03:=J5 hb02 hb3;obtain⟨n,hn⟩:∃n,n=(Ex.tuples D a).length:=⟨_,rfl⟩;rw[←hn]at HT1 HLEN ⊢;have HN:=J1 hn;have hn10:=HLEN.out;have HB3:=J1 hb03;clear ct hT1 ha1 hb3 hb02 hb03 hn x0 x1 x2 x3 x4 x5;go_wp2_with fail;obtain⟨F,hF⟩:∃F:List (List Vl)→List Vl,F=fun t=>Mt.flat t (Tr.seen a) cols:=⟨_,rfl⟩;have HF:=J1 hF;obtain⟨TS,hTS⟩:∃TS,TS=Ex.tuples D a:=⟨_,rfl⟩;have HTS:=J1 hTS;rw[←hTS]at HT1 HN CF HTK;rw[←hF]at HTK;clear hF hTS
  go_loopw [8,25] (fun s i wr=>∃(q b:Nat) (us:List Value) (B:Option Addr),q≤n∧i=.int .i64 q∧s=.slice B q b∧q≤b∧Hid (RwRow (fun j=>w3.heap.size≤j) w3.heap.size wr (.slice B q b) q us ((TS.take q).map F))∧Below w3 w3 wr) (fun _ i _=>n-(intOf i).toNat)
  case atStart=>exact⟨0,0,[],none,E3 _,rfl,rfl,C3 _,J1 ⟨World.ownsRow_nil _ _ _ _,by simp,fun i t h=>by simp at h⟩,Below.refl _ _⟩
  case round =>
   obtain⟨q,b,us,B,hq,rfl,rfl,hqb,HR,hb⟩:=hrel
   by_cases hlt:q<n
   ·obtain⟨t,gt⟩:∃t,TS[q]?=some t:=⟨TS[q]'(by have:=HN.out;omega),A8 _⟩
    obtain⟨b1,o1,p1,B1,d1,hA1,_,h1⟩:=HT1.out.pick gt;subst hA1;obtain⟨hcell,hu⟩:=h1 wr hb;have hbw:=J5 HB3.out hb;have cf:=CF.out wr hbw _ t hu (C8 gt);have hmap:=HTK.out q t gt;obtain⟨r,hr⟩:∃r,r=Mt.flat t (Tr.seen a) cols:=⟨_,rfl⟩;rw[←hr]at cf hmap;have HMAP:=J1 hmap;have x0:=(HX.out wr hbw).c 0 rfl
    have i1:(0:Int)≤(q:Int):=by omega
    have i2:(q:Int)<(n:Int):=by omega
    obtain⟨tl,htl⟩:∃n,n=t.length:=⟨_,rfl⟩;rw[←htl]at cf hcell;clear h1 hu gt hr hmap htl hbw;go_wp2_with fail;refine cf.mono ?_;rintro E w4 ⟨A2,c2,rfl,hR4,hb4⟩;obtain⟨rl,hrl⟩:∃n,n=r.length:=⟨_,rfl⟩;rw[←hrl]at hR4 ⊢;obtain⟨W5,hW5⟩:∃W5,W5=w4.alloc (Obj.cells #[.slice A2 rl c2] 63):=⟨_,rfl⟩;have hb5:=J6 w4 (Obj.cells #[.slice A2 rl c2] 63);rw[←hW5]at hb5;have hr5:=hR4.below hb5 (C3 _);have hb45:=J5 hb4 hb5;have hT5:=HR.out.below hb45
    have HCN:=J1 (show ∀(j:Nat) (x:Value),[Value.slice A2 rl c2][j]?=some x→W5.cell? ((⟨w4.heap.size,0,none⟩:Addr).add j)=some x by
     rw[hW5];exact cell_one_new w4 (.slice A2 rl c2) 63)
    have HW5:=J1 hW5;have HT5:=J1 hT5;have HBB:=J1 (J5 hb hb45)
    have HPUSH:=J1 (fun v1 w6 (hown:w6.ownsRow w3.heap.size 63 1 v1 (q+1) (us++[.slice A2 rl c2])) (hg:W5.grownBy w6 (Value.slice B q b).ownBlock) (hw:v1.ownBlock=(Value.slice B q b).ownBlock∨∃g,v1.ownBlock=some g∧W5.heap.size≤g) =>
     hT5.push (r:=r) (by rw[hrl]at hr5 ⊢;exact hr5.mono fun k _ hk=>⟨fun e=>by have:=(HR.out.own.lt k e).2;omega,by have:=hb.size;omega⟩) hown hg hw)
    clear cf hcell hR4 hb4 hrl hW5 hb5 hr5 hb45 hT5 hb x0
    go_wp2_with (first
     | (at_builtin;rw[←HW5.out];refine Q8 _ rfl _ _ 33 rfl w3.heap.size 63 i0 (.slice none 0 0) 1 24 Tryz.underlying33 hi hz0 hz1 hz2 rfl (by decide) _ q us rfl HT5.out.own ⟨w4.heap.size,0,none⟩ 1 1 [.slice A2 rl c2] rfl rfl ?c1 ?c2 ?c3 ?c4 ?c5 ?_))
    case c1=>exact HCN.out
    case c2=>intro u hu;simp at hu;subst hu;rfl
    case c3=>unfold maxLen;omega
    case c4=>omega
    case c5=>exact HBB.out.size
    intro v1 w6 hown3 hgrow hwhere;have hT6:=HPUSH.out v1 w6 hown3 hgrow hwhere;have hb6:Below w3 w3 w6:=HBB.out.grown hgrow HBB.out.size (fun k hk=>(HT5.out.own.lt k hk).1)
    obtain⟨A5,a5,rfl,ha5⟩:∃A5 a5,v1=.slice A5 (q+1) a5∧q+1≤a5:=by
     rcases hown3.2 with⟨rfl,h0⟩ | ⟨g,cap,cur,rfl,_,_,hnc,_⟩
     ·omega
     ·exact⟨_,cap,rfl,hnc⟩
    rw[←HMAP.out]at hT6;have HT6:=J1 hT6;clear hT6 hown3 hgrow hwhere;go_wp2_with fail
    go_roundw
    case rel=>exact⟨q+1,a5,_,A5,by omega,by go_num,rfl,ha5,HT6,hb6⟩
    case measure=>simp[intOf];omega
   ·have HRES:=J1 (show RunIs w cols a D (.returned (.tuple #[.slice B q b,z9])) wr from by
     have h1:=HR.out
     rw[C7 (by have:=HN.out;omega)]at h1
     have h2:=h1.len;have h3:=h1.rws
     have h4:Ex.run cols a D=TS.map F:=by rw[HRUN.out,HF.out,HTS.out];rfl
     exact⟨B,b,by rw[h4,h2,←HZ.out],by rw[h4,h2];exact h3,J5 HB0.out (J5 HB3.out hb)⟩)
    have i2:¬((q:Int)<(n:Int)):=by omega
    clear hb hlt HR;go_wp2_with fail
    go_ret2
    exact HRES.out
 ·have hrun:Ex.run cols a D=[]:=if_neg (fun e=>hz0 (HZ.out.trans e));have HRUN:=J1 hrun
  have hz1:(z != 0)=true:=by simpa using hz0
  clear hc hu hv hd hsz hW hP hT hok hW0 l0 hb0 hz hrun x;go_enter Tryz.func7,Tryz.ntmps7
  go_upto_region 1 with(fail)
  rw[←HW.out];go_wp2_with fail;refine cd.mono ?_;rintro E w1 ⟨rfl,hb1⟩
  have HRES:=J1 (show RunIs w cols a D (.returned (.tuple #[(),z])) w1 from
   ⟨none,0,by rw[HRUN.out,←HZ.out];rfl,by rw[HRUN.out];exact⟨[],(SlOn.nil Al _).sl,rfl,fun i r h=>by simp at h⟩,J5 HB0.out hb1⟩)
  clear cd hb1 x0 x1 x2 x3 x4 x5;go_wp2_with fail
  go_ret2
  exact HRES.out
theorem Ex.cnt_hit {d:List (List (List Vl))} {a:Tr} {rs:List (List Vl)} (hk:a.k=0) (h0:0≤a.t) (h1:a.t<(d.length:Int)) (hg:d[a.t.toNat]?=some rs):Ex.cnt d a=max 1 rs.length:=by
 unfold Ex.cnt;rw[if_pos ⟨hk,h0,h1⟩,hg];rfl
theorem Ex.cnt_miss {d:List (List (List Vl))} {a:Tr} (h:¬(a.k=0∧0≤a.t∧a.t<(d.length:Int))):Ex.cnt d a=1:=by
 unfold Ex.cnt;rw[if_neg h]
theorem A29 (d:Nat) (a:Tr) (u v dv:Value) (D:List (List (List Vl))) (M:Nat) (w:World) (hu:TsAt d w u a.ks) (hv:PsSome w v a.cs) (hd:Dts w dv D) (hsz:Tr.size a≤1000) (hM:M≤10000) (hD:∀rs∈D,rs.length≤1000000) (hDl:D.length≤1000000) :
  Calls Tryz.prog 19 #[.agg #[a.k,a.t,u,v,a.h],dv,(M:Int)] w
   fun e w'=>e=.returned (.bool (decide (Ex.prod D (Tr.all a)≤M)))∧Below w w w':=by
 obtain⟨W0,hW0⟩:∃W0,W0=w.alloc (Obj.cells #[a.k,a.t,u,v,a.h] 26):=⟨_,rfl⟩;obtain⟨l0,p0,hb0⟩:=A0a (a:=a) (u:=u) (v:=v) hW0;obtain⟨A,c,rfl,hl⟩:=hu.form;obtain⟨A',c',rfl,hl'⟩:=hv.elim fun D h=>h.form;have cs:=A18 W0 d a _ _ W0 (Below.refl _ _) (hu.below hb0 (C3 _)) (hv.below hb0 (C3 _)) hsz;have hal:=Tr.all_length_le a;obtain⟨q0,q1,q2,q3,q4⟩:=p0;obtain⟨DA,dc,rfl,hdc,hat⟩:=id hd;have HD:=J1 hd;have HDL:=J1 hD;obtain⟨dl,hdl⟩:∃n,n=D.length:=⟨_,rfl⟩;rw[←hdl]at HD hdc hDl ⊢;have HDN:=J1 hdl;have HW:=J1 hW0;have HB0:=J1 hb0;clear hW0 hu hv l0 hat hd hD hdl;go_enter Tryz.func19,Tryz.ntmps19
 go_upto_region 1 with(fail)
 rw[←HW.out];go_wp2_with fail;refine cs.mono ?_;rintro e w2 ⟨v2,L,rfl,hm,_,hown2,hb2⟩;have hb02:=J5 HB0.out hb2;obtain⟨n,hn⟩:∃n,n=L.length:=⟨_,rfl⟩
 have hnl:n≤1000:=by
  have h1:=congrArg List.length hm;rw[E0]at h1;omega
 obtain⟨B,c2,rfl,_⟩:=A2e hown2;rw[←hn]at hown2 ⊢;have HN:=J1 hn;have HM:=J1 hm;have HO:=J1 hown2;clear cs q0 q1 q2 q3 q4 hn hm hown2 hb2 hal;go_wp2_with fail
 have HP0:=J1 (show Ex.prod D ((Tr.all a).take 0)=1 from rfl)
 go_loopw [8,9] (fun s i wr=>∃q z:Nat,q≤n∧i=.int .i64 q∧s=.int .i64 z∧z≤10000∧Hid (z=Ex.prod D ((Tr.all a).take q)∧(q=0∨z≤M))∧w2=wr) (fun _ i _=>n-(intOf i).toNat)
 case atStart=>exact⟨0,1,E3 _,rfl,rfl,by decide,J1 ⟨HP0.out.symm,.inl rfl⟩,rfl⟩
 case round =>
  obtain⟨q,z,hq,rfl,rfl,hz,hpz,rfl⟩:=hrel
  by_cases hlt:q<n
  ·obtain⟨x,gx⟩:∃x,L[q]?=some x:=⟨L[q]'(by have:=HN.out;omega),A8 _⟩
   have gb:(Tr.all a)[q]?=some x.1:=by rw[←HM.out,F5,gx];rfl
   have HPT:=J1 (Ex.prod_take (d:=D) gb);have HPL:=J1 (Ex.prod_le (d:=D) (l:=Tr.all a) (q+1));have hrow':=HO.out;rw[HN.out]at hrow';obtain⟨A1,c1,hv1,hx⟩:=A2e hrow';cases hv1;obtain⟨g,rfl,hg1,hg2,q0,q1,_,_,_⟩:=hx q x gx;rw[S5]at q0 q1;dsimp only at q0 q1
   have i1:(0:Int)≤(q:Int):=by omega
   have i2:(q:Int)<(n:Int):=by omega
   clear hrow' hx gx gb
   by_cases hk:x.1.k=0∧0≤x.1.t∧x.1.t<(dl:Int)
   ·obtain⟨k1,k2,k3⟩:=hk
    obtain⟨rs,gr⟩:∃rs,D[x.1.t.toNat]?=some rs:=⟨D[x.1.t.toNat]'(by have:=HDN.out;omega),A8 _⟩
    have HC:=J1 (Ex.cnt_hit k1 k2 (by rw[←HDN.out];exact k3) gr)
    have hdat:=(HD.out.below hb02 (C3 _)).at_ gr;obtain⟨b1,o1,p1,B1,e1,hA1,_,hc1,_⟩:=hdat;subst hA1;have hrl:=HDL.out rs (C8 gr);obtain⟨rl,hrle⟩:∃n,n=rs.length:=⟨_,rfl⟩;rw[←hrle]at hc1 hrl HC;obtain⟨tn,htn⟩:∃tn:Nat,x.1.t=(tn:Int):=⟨x.1.t.toNat,(Int.toNat_of_nonneg k2).symm⟩;rw[htn]at q1 k2 k3 hc1;rw[Int.toNat_natCast]at hc1;rw[k1]at q0;obtain⟨mx,hmx⟩:∃mx,mx=max 1 rl:=⟨_,rfl⟩
    have hmx2:max (1:Int) (rl:Int)=(mx:Int):=by omega
    have hmul:(z:Int)*(mx:Int)=((z*mx:Nat):Int):=by simp
    have hzm:z*mx≤10000*1000000:=Nat.mul_le_mul hz (by omega)
    have HZ:=J1 (show z*mx=Ex.prod D ((Tr.all a).take (q+1)) by rw[HPT.out,HC.out,←hpz.out.1,hmx])
    obtain⟨zm,hzme⟩:∃zm,zm=z*mx:=⟨_,rfl⟩;rw[←hzme]at hmul hzm HZ
    have HWR:=J1 (show wrap64 ((z:Int)*max 1 (rl:Int))=(zm:Int) by rw[hmx2,hmul];unfold wrap64;omega)
    have HWR2:=J1 (show wrap64 ((z:Int)*((max 1 rl:Nat):Int))=(zm:Int) by rw[←hmx,hmul];unfold wrap64;omega)
    have hwm:=HZ.out;have hall:=HPL.out;rw[←hwm]at hall;clear gr hrle htn k1 hzme hwm hmul hmx2
    by_cases hgt:M<zm
    ·have hg2:(M:Int)<(zm:Int):=by omega
     have hg3:(zm:Int)>(M:Int):=by omega
     have HRES:=J1 (show decide (Ex.prod D (Tr.all a)≤M)=false from decide_eq_false (by omega))
     clear hgt hmx hall hzm;have hwr:=HWR.out;have hwr2:=HWR2.out;go_wp2_with fail;go_ret
     exact⟨by rw[HRES.out];rfl,hb02⟩
    ·have hg2:¬((M:Int)<(zm:Int)):=by omega
     have hg3:¬((zm:Int)>(M:Int)):=by omega
     have HZM:=J1 (show zm≤10000∧zm≤M by omega)
     clear hgt hmx hall hzm;have hwr:=HWR.out;have hwr2:=HWR2.out;go_wp2_with fail;clear hwr hwr2
     go_roundw
     case rel=>exact⟨q+1,zm,by omega,by go_num,by first | rfl | trivial | rw[HWR.out] | rw[HWR2.out],HZM.out.1,J1 ⟨HZ.out,.inr HZM.out.2⟩,by first | rfl | trivial⟩
     case measure=>simp[intOf];omega
   ·have HC:=J1 (Ex.cnt_miss (d:=D) (a:=x.1) (by rw[←HDN.out];exact hk))
    have HZ:=J1 (show z=Ex.prod D ((Tr.all a).take (q+1)) by rw[HPT.out,HC.out,←hpz.out.1,Nat.mul_one])
    have hall:=HPL.out;rw[←HZ.out]at hall;obtain⟨xk,hxk⟩:∃xk,xk=x.1.k:=⟨_,rfl⟩;obtain⟨xt,hxt⟩:∃xt,xt=x.1.t:=⟨_,rfl⟩;rw[←hxk]at q0 hk;rw[←hxt]at q1 hk;clear hxk hxt
    have hcase:(xk == 0)=false∨(xk=0∧¬xt≥0∧decide (0≤xt)=false)∨(xk=0∧xt≥0∧¬xt<(dl:Int)∧decide (xt<(dl:Int))=false):=by
     by_cases g1:xk=0
     ·by_cases g2:0≤xt
      ·have g3:¬xt<(dl:Int):=fun g3=>hk ⟨g1,g2,g3⟩;exact .inr (.inr ⟨g1,g2,g3,decide_eq_false g3⟩)
      ·exact .inr (.inl ⟨g1,g2,decide_eq_false g2⟩)
     ·exact .inl (by simpa using g1)
    clear hk
    by_cases hgt:M<z
    ·have hg2:(M:Int)<(z:Int):=by omega
     have hg3:(z:Int)>(M:Int):=by omega
     have HRES:=J1 (show decide (Ex.prod D (Tr.all a)≤M)=false from decide_eq_false (by omega))
     clear hgt hall
     rcases hcase with g1 | ⟨rfl,g2,g3⟩ | ⟨rfl,g2,g3,g4⟩
     all_goals
      go_wp2_with fail;go_ret
      exact⟨by rw[HRES.out];rfl,hb02⟩
    ·have hg2:¬((M:Int)<(z:Int)):=by omega
     have hg3:¬((z:Int)>(M:Int)):=by omega
     have HZM:=J1 (show z≤10000∧z≤M by omega)
     clear hgt hall
     rcases hcase with g1 | ⟨rfl,g2,g3⟩ | ⟨rfl,g2,g3,g4⟩
     all_goals
      go_wp2_with fail
      go_roundw
      case rel=>exact⟨q+1,z,by omega,by go_num,by first | rfl | trivial | rw[HWR.out] | rw[HWR2.out],HZM.out.1,J1 ⟨HZ.out,.inr HZM.out.2⟩,by first | rfl | trivial⟩
      case measure=>simp[intOf];omega
  ·have HRES:=J1 (show Ex.prod D (Tr.all a)≤M from by
    have h1:=HM.out;have h2:=congrArg List.length h1;rw[E0]at h2;have h3:=hpz.out
    rw[C7 (by have:=HN.out;omega)]at h3
    have h4:=Tr.all_at a
    rcases h3.2 with h5 | h5
    ·exfalso
     have h6:=congrArg List.length h4;rw[C6,List.length_singleton]at h6;have:=HN.out;omega
    ·rw[←h3.1];exact h5)
   have hd:decide (Ex.prod D (Tr.all a)≤M)=true:=decide_eq_true HRES.out;have HDD:=J1 hd
   have i2:¬((q:Int)<(n:Int)):=by omega
   clear hd hlt;go_wp2_with fail;go_ret
   exact⟨by rw[HDD.out];rfl,hb02⟩
theorem A4s (a:Tr) (cols:List Int) (cv u v dv:Value) (D:List (List (List Vl))) (M:Nat) (w:World) (hc:Sl w cv (cols.map (Value.int .i64))) (hu:∃d,TsAt d w u a.ks) (hv:PsSome w v a.cs) (hd:Dts w dv D) (hM:M≤10000) :
  Calls Tryz.prog 5 #[.agg #[cv,a.k,a.t,u,v,a.h],dv,(M:Int)] w
   fun e w'=>∃b:Bool,e=.returned (.bool b)∧(b=true→Tr.size a≤600∧Ck.data cols a D=0∧Ex.prod D (Tr.all a)≤M)∧Below w w w':=by
 obtain⟨A,c,rfl,_⟩:=hu.elim fun d h=>h.form;obtain⟨A',c',rfl,_⟩:=hv.elim fun d h=>h.form;obtain⟨W0,hW0⟩:∃W0,W0=w.alloc (Obj.cells #[cv,a.k,a.t,.slice A a.ks.length c,.slice A' a.cs.length c',a.h] 28):=⟨_,rfl⟩;obtain⟨l0,hb0⟩:=L5 (cs:=[cv,a.k,a.t,.slice A a.ks.length c,.slice A' a.cs.length c',a.h]) hW0;have cf:=A7i a cv (.slice A a.ks.length c) (.slice A' a.cs.length c') W0 (hu.elim fun d h=>⟨d,h.below hb0 (C3 _)⟩) (hv.below hb0 (C3 _));have CL:=J1 (fun W (h:Below W0 W0 W)=>A36 dv D W (hd.below (J5 hb0 h) (C3 _)))
 have CD:=J1 (fun W (h:Below W0 W0 W) (hs:Tr.size a≤1000)=>have hbw:=J5 hb0 h;A3W a cols cv (.slice A a.ks.length c) (.slice A' a.cs.length c') dv D W (hc.below hbw (C3 _)) (hu.elim fun d h=>⟨d,h.below hbw (C3 _)⟩) (hv.below hbw (C3 _)) (hd.below hbw (C3 _)) hs)
 have CB:=J1 (fun W (h:Below W0 W0 W) (hs:Tr.size a≤1000) (hz:Ck.data cols a D=0)=>have hbw:=J5 hb0 h;have hso:=Ex.sound_of hz;hu.elim fun d hu=>A29 d a (.slice A a.ks.length c) (.slice A' a.cs.length c') dv D M W (hu.below hbw (C3 _)) (hv.below hbw (C3 _)) (hd.below hbw (C3 _)) hs hM (fun rs hrs=>by
   obtain⟨j,hj,rfl⟩:=F9.1 hrs
   have hjc:j<cols.length:=by have:=hso.len;omega
   have:=(hso.rows j _ _ (A8 hj) (A8 hjc)).1
   omega) (by have:=hso.len;have:=hso.wide;omega))
 obtain⟨cA,cn,cc,rfl⟩:∃cA cn cc,cv=.slice cA cn cc:=by obtain⟨A,c,h,_⟩:=hc;exact⟨A,_,c,h⟩
 obtain⟨DA,dc,rfl,_⟩:=id hd;have HX:=J1 (fun W (h:Below W0 W0 W)=>l0.below h l0.lt);have x0:=l0.c 0 rfl;have x1:=l0.c 1 rfl;have x2:=l0.c 2 rfl;have x3:=l0.c 3 rfl;have x4:=l0.c 4 rfl;have x5:=l0.c 5 rfl;have HW:=J1 hW0;have HB0:=J1 hb0;clear hW0 l0 hb0 hc hu hv hd
 by_cases hs:Tr.size a≤600
 ·rw[decide_eq_true hs]at cf;have HS:=J1 hs;clear hs;go_enter Tryz.func5,Tryz.ntmps5
  go_upto_region 1 with(fail)
  rw[←HW.out];go_wp2_with fail;refine cf.mono ?_;rintro e w1 ⟨rfl,hb1⟩;have cl:=CL.out w1 hb1;clear cf;go_wp2_with fail;refine cl.mono ?_;rintro e w2 ⟨b,rfl,rfl⟩;have HB1:=J1 hb1;cases b
  ·clear cl hb1;go_wp2_with fail;go_ret;exact⟨false,rfl,(fun h=>nomatch h),J5 HB0.out HB1.out⟩
  ·have cd:=CD.out w1 hb1 (by have:=HS.out;omega)
   obtain⟨z,hz⟩:∃z,z=Ck.data cols a D:=⟨_,rfl⟩;rw[←hz]at cd;have HZ:=J1 hz;have l:=HX.out w1 hb1;have x0:=l.c 0 rfl;have x1:=l.c 1 rfl;have x2:=l.c 2 rfl;have x3:=l.c 3 rfl;have x4:=l.c 4 rfl;have x5:=l.c 5 rfl;clear cl hb1 l hz;go_wp2_with fail;refine cd.mono ?_;rintro e w3 ⟨rfl,hb3⟩;have hb13:=J5 HB1.out hb3;have l:=HX.out w3 hb13;have x0:=l.c 0 rfl;have x1:=l.c 1 rfl;have x2:=l.c 2 rfl;have x3:=l.c 3 rfl;have x4:=l.c 4 rfl;have x5:=l.c 5 rfl;have HB3:=J1 hb13;clear cd l hb3
   by_cases hz0:z=0
   ·have cb:=CB.out w3 hb13 (by have:=HS.out;omega) (HZ.out.symm.trans hz0)
    have HZ0:=J1 (HZ.out.symm.trans hz0);subst hz0;obtain⟨pb,hpb⟩:∃pb,pb=decide (Ex.prod D (Tr.all a)≤M):=⟨_,rfl⟩;rw[←hpb]at cb;have HPB:=J1 hpb;clear hb13 hpb;go_wp2_with fail;refine cb.mono ?_;rintro e w4 ⟨rfl,hb4⟩;have HB4:=J1 (J5 HB3.out hb4);clear cb hb4 x0 x1 x2 x3 x4 x5;go_wp2_with fail;go_ret;exact⟨pb,rfl,fun h=>⟨HS.out,HZ0.out,of_decide_eq_true (HPB.out.symm.trans h)⟩,J5 HB0.out HB4.out⟩
   ·have hz1:(z == 0)=false:=by simpa using hz0
    clear hb13;go_wp2_with fail;go_ret;exact⟨false,rfl,(fun h=>nomatch h),J5 HB0.out HB3.out⟩
 ·rw[decide_eq_false hs]at cf;clear hs;go_enter Tryz.func5,Tryz.ntmps5
  go_upto_region 1 with(fail)
  rw[←HW.out];go_wp2_with fail;refine cf.mono ?_;rintro e w1 ⟨rfl,hb1⟩;have HB1:=J1 hb1;clear cf hb1;go_wp2_with fail;go_ret;exact⟨false,rfl,(fun h=>nomatch h),J5 HB0.out HB1.out⟩
set_option maxRecDepth 100000
open Go.RowKit Go.WideShapes Go.ChangeShapes Go.Deep
section
variable {H:Type} {enc:TypeId × Value→H} {W:World}
theorem A3C {n:Nat} {v:Value} {y:DataW H × List MemPlace} (h:DataW.trod enc Tryz.prog W 0 (fun _=>true) true n 30 [v]=some y):∃d,Dts W v d∧∀rs∈d,∀x∈rs,∀y∈x,Hs.I64 y.2:=by
 rcases DataW.trod_slice Tryz.underlying30 h with⟨hv,_⟩ | ⟨a,len,cap,elems,rest,m,hm,hv,_,_,hl,hcap,hlen,hel,_,_⟩
 ·obtain rfl:v=.slice none 0 0:=by simpa using hv
  exact⟨[],⟨none,0,rfl,by simp,fun j u hu=>by simp at hu⟩,fun rs hrs=>by simp at hrs⟩
 ·obtain rfl:v=.slice (some a) len cap:=by simpa using hv
  rw[show Tryz.prog.cellsOf 33=1 by kernel_rfl]at hel
  have each:∀i,i<len→∃rs:List (List Vl),∃(B:Option Addr) (e:Nat),W.cell? (a.add i)=some (.slice B rs.length e)∧Rws W (.slice B rs.length e) rs∧∀x∈rs,∀y∈x,Hs.I64 y.2:=by
   intro i hi;have h1:=hel i hi
   rw[A8 (by omega)]at h1
   obtain⟨cs',h2,h3⟩:=Option.bind_eq_some_iff.1 h1;obtain⟨_,hcl,hc⟩:=World.cells?_some h2
   have h0:=hc 0 (by decide)
   have e0:(a.add (i*1)).add 0=a.add i:=by unfold Addr.add;simp
   rw[e0]at h0
   match cs',hcl with
   | [u],_ =>
    change W.cell? (a.add i)=some u at h0
    obtain⟨A0,n0,c0,rfl⟩:∃A n c,u=.slice A n c:=by
     rcases DataW.trod_slice Tryz.underlying33 h3 with⟨hv,_⟩ | ⟨a,len,cap,_,_,_,_,hv,_⟩
     ·exact⟨none,0,0,by simpa using hv⟩
     ·exact⟨some a,len,cap,by simpa using hv⟩
    obtain⟨rs,hr0,hy⟩:=A26 (A0:=A0) (n0:=n0) (c0:=c0) ⟨_,h3⟩;have hr:=hr0.rws;obtain⟨A1,c1,hv1,_⟩:=hr.at_;cases hv1;exact⟨rs,A0,c0,h0,hr,hy⟩
  obtain⟨ds,hdl,hds⟩:=A1K (α:=List (List Vl)) (Q:=fun(i:Nat) (rs:List (List Vl))=>∃(B:Option Addr) (e:Nat),W.cell? (a.add i)=some (.slice B rs.length e)∧Rws W (.slice B rs.length e) rs∧∀x∈rs,∀y∈x,Hs.I64 y.2) len each
  refine⟨ds,⟨some a,cap,by rw[hdl],by omega,fun j rs hj=>?_⟩,fun rs hrs=>by
   obtain⟨j,hj,rfl⟩:=F9.1 hrs;obtain⟨_,_,_,_,h2⟩:=hds j _ (A8 hj);exact h2⟩
  obtain⟨B,e,h0,h1,_⟩:=hds j rs hj;obtain⟨b,o,p⟩:=a;refine⟨b,o,p,B,e,rfl,?_,h0,h1⟩;have:=block_lt_of_cell h0
  rwa[L7]at this
theorem A2S {r:Reach} {b0:Nat} {v:Value} {d:DataW H} {p:List MemPlace} (hv:Value.okWide Tryz.prog W r b0 30 v) (h:DataW.Trod enc Tryz.prog W 0 (fun _=>true) true 30 v d p):∃dd,Dts W v dd∧∀rs∈dd,∀x∈rs,∀y∈x,Hs.I64 y.2:=by
 obtain⟨A,n,c,rfl⟩:=okWide_slice Tryz.underlying30 hv;obtain⟨fuel,hf⟩:=h;exact A3C hf
end
theorem A7R {W:World} {l:List (String × DataW Unit)} (h:laidMet Tryz.prog l W) (m1:("math/bits.deBruijn64tab",Lib.tabData .u8 (Lib.deBruijn64tab.map Int.ofNat))∈l):Tab W:=by
 have ht:Lib.TabIs Tryz.prog W "math/bits.deBruijn64tab" .u8 (Lib.deBruijn64tab.map Int.ofNat):=by
  obtain⟨g,t,cs,fuel,p0,h1,h2,h3,h4⟩:=A2M h m1;obtain rfl:=F0 (gTab13.symm.trans h1);obtain rfl:=F0 (gTabType13.symm.trans h2);unfold Lib.TabIs;rw[h3,←Lib.cells_of_tab Tryz.underlying179 Tryz.underlying5 A4p A5W h4]
 intro j hj
 have hl:j<(Lib.deBruijn64tab.map Int.ofNat).length:=by rw[E0];exact hj
 rw[ht.cell gTab13 j hl]
 simp[List.getD,hj]
end Go.Proofs.YtbddhkgbpjhhaaaGreatDoor
