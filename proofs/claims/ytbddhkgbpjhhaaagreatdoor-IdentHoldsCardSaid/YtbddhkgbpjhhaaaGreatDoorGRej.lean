/-
  LAID TOGETHER, BY PROGRAM, of: Held, Reja, Rejb, Rejm, Rejn, Rejo, Rejp.
-/
import Derived.Test.YtbddhkgbpjhhaaaGreatDoorRows
import Derived.Test.YtbddhkgbpjhhaaaGreatDoorGPlain
import Derived.Test.YtbddhkgbpjhhaaaGreatDoorGPred
import Derived.Test.YtbddhkgbpjhhaaaGreatDoorGBase
import Derived.Test.YtbddhkgbpjhhaaaGreatDoorGLogs
import Derived.Test.YtbddhkgbpjhhaaaGreatDoorGOwn
import Derived.Deep.RegionHeld3
import Derived.Deep.Cut
set_option maxHeartbeats 3200000
set_option maxRecDepth 100000
namespace Go.Proofs.YtbddhkgbpjhhaaaGreatDoor
open Go
open Go.RowKit Go.Sort
namespace Rj
end Rj
theorem A1f (k t c:Int) (z:Bool) (n:Int) (w:World) :
  Calls Tryz.prog 190 #[.agg #[k,t,c,z,n]] w fun e w'=>e=.returned (.bool (k == 1))∧Below w w w':=by
 go_enter Tryz.func190,Tryz.ntmps190;go_wp2_with fail;go_ret;exact⟨rfl,J6 _ _⟩
theorem A5A (o:Int) (w:World) :
  Calls Tryz.prog 189 #[o] w fun e w'=>e=.returned (.bool (!(decide (o<1)||decide (6<o))))∧w=w':=by
 by_cases h1:o<1
 ·have d1:decide (1≤o)=false:=by simp;omega
  have H:Hid ((!(decide (o<1)||decide (6<o)))=false):=J1 (by simp;omega)
  clear h1;go_enter Tryz.func189,Tryz.ntmps189;go_wp2_with fail;go_ret;exact⟨J8 H.out.symm,rfl⟩
 ·have d1:decide (1≤o)=true:=by simp;omega
  by_cases h2:6<o
  ·have d2:decide (o≤6)=false:=by simp;omega
   have H:Hid ((!(decide (o<1)||decide (6<o)))=false):=J1 (by simp;omega)
   clear h1 h2;go_enter Tryz.func189,Tryz.ntmps189;go_wp2_with fail;go_ret;exact⟨J8 H.out.symm,rfl⟩
  ·have d2:decide (o≤6)=true:=by simp;omega
   have H:Hid ((!(decide (o<1)||decide (6<o)))=true):=J1 (by simp;omega)
   clear h1 h2;go_enter Tryz.func189,Tryz.ntmps189;go_wp2_with fail;go_ret;exact⟨J8 H.out.symm,rfl⟩
theorem A1M (k t c:Int) (z:Bool) (n:Int) (N:Nat) (w:World) (hN:N<18446744073709551616) :
  Calls Tryz.prog 188 #[.agg #[k,t,c,z,n],.int .u64 (N:Int)] w fun e w'=>e=.returned (.bool (Rj.sure ⟨k,t,c,z,n⟩ N))∧Below w w w':=by
 obtain⟨W0,hW0⟩:∃W0,W0=w.alloc (Obj.cells #[k,t,c,z,n] 55):=⟨_,rfl⟩;obtain⟨l0,hb0⟩:=L5 (cs:=[k,t,c,z,n]) hW0;have ch:=fun w=>A7b (N:Int) t w (U64.of hN);rw[Int.toNat_natCast]at ch;have cc:=A1f k t c z n W0;have HW:=J1 hW0;have L0:=J1 l0;have HB0:=J1 hb0;have z0:=l0.c 0 rfl;have z1:=l0.c 1 rfl;have z2:=l0.c 2 rfl;have z3:=l0.c 3 rfl;have z4:=l0.c 4 rfl;have hlt:w.heap.size<W0.heap.size:=l0.lt;clear hW0 l0 hb0
 have hs:Rj.sure ⟨k,t,c,z,n⟩ N=((k == 1&&St.hasB N t)||(k != 1&&z)):=rfl
 rw[hs];clear hs
 by_cases hk:k=1
 ·have e1:(k == 1)=true:=by simpa using hk
  have e2:(k != 1)=false:=by simp[hk]
  rw[e1]at cc;rw[e1,e2];obtain⟨r,hr⟩:∃r,r=St.hasB N t:=⟨_,rfl⟩;rw[←hr]at ch ⊢;clear hk hr e1 e2;go_enter Tryz.func188,Tryz.ntmps188
  go_upto_region 1 with(fail)
  rw[←HW.out];go_wp2_with fail;refine cc.mono ?_;rintro e w2 ⟨rfl,hb2⟩;have y1:=(hb2.cell (p:=⟨w.heap.size,1,none⟩) hlt).trans z1;have HB2:=J1 hb2;clear cc hb2 z0 z1 z2 z3 z4
  go_wp2_with (first | (with_reducible refine(ch _).mono ?_;rintro e w3 ⟨rfl,rfl⟩))
  go_ret
  exact⟨J8 (by simp),J5 HB0.out HB2.out⟩
 ·have e1:(k == 1)=false:=by simpa using hk
  have e2:(k != 1)=true:=by simpa using hk
  rw[e1]at cc;rw[e1,e2];clear hk ch e1 e2;go_enter Tryz.func188,Tryz.ntmps188
  go_upto_region 1 with(fail)
  rw[←HW.out];go_wp2_with fail;refine cc.mono ?_;rintro e w2 ⟨rfl,hb2⟩;have y1:=(hb2.cell (p:=⟨w.heap.size,3,none⟩) hlt).trans z3;have HB2:=J1 hb2;clear cc hb2 z0 z1 z2 z3 z4;go_wp2_with fail;go_ret
  exact⟨J8 (by simp),J5 HB0.out HB2.out⟩
theorem A63 (v:Value) (l:List Nat) (w:World) (hv:Sl w v (l.map fun(n:Nat)=>Value.int .i64 (n:Int))) (hl:l.length≤1000) (h3:∀x∈l,x<3) :
  Calls Tryz.prog 148 #[v] w fun e w'=>e=.returned (.agg #[.bool (M3.only l).1,.bool (M3.only l).2.1,.bool (M3.only l).2.2])∧Below w w w':=by
 obtain⟨A,c,rfl,_,hx⟩:=hv;rw[E0];obtain⟨n,hn⟩:∃n,n=l.length:=⟨_,rfl⟩;rw[←hn]at hl ⊢;have HN:=J1 hn;have HX:=J1 hx;have H3:=J1 h3;obtain⟨⟨m0,m1,m2⟩,hM⟩:∃m,m=M3.only l:=⟨_,rfl⟩;rw[←hM];have HM:=J1 hM;dsimp only;clear hM;obtain⟨W0,hW0⟩:∃W0,W0=w.alloc (Obj.cells #[false,false,false] 164):=⟨_,rfl⟩;obtain⟨l0,hb0⟩:=L5 (cs:=[false,false,false]) hW0;obtain⟨W1,hW1⟩:∃W1,W1=W0.alloc (Obj.cells #[false,false,false] 164):=⟨_,rfl⟩;obtain⟨l1,hb1⟩:=L5 (cs:=[false,false,false]) hW1
 have hz:W0.heap.size=w.heap.size+1:=by rw[hW0];simp
 rw[hz]at l1;have l01:=l0.below hb1 l0.lt;have HW0:=J1 hW0;have HW1:=J1 hW1;have L01:=J1 l01;have L1:=J1 l1;have HB1:=J1 (J5 hb0 hb1);have HZ:=J1 hz;clear hn hx h3 hW0 hW1 l0 l1 l01 hb0 hb1 hz;go_enter Tryz.func148,Tryz.ntmps148
 go_upto_region 2 with(fail)
 rw[←HW0.out,←HW1.out];go_wp2_with fail
 go_loopw [8] (fun i wr=>∃q:Nat,q≤n∧i=.int .i64 q∧Hid (Lies wr (w.heap.size+1) 164 (M3.only (l.take q)).cells)∧Hid (Lies wr w.heap.size 164 [false,false,false])∧Below w w wr) (fun i _=>n-(intOf i).toNat)
 case atStart=>exact⟨0,E3 _,rfl,J1 (by rw[F8];exact L1.out),L01,HB1.out⟩
 case round =>
  obtain⟨q,hq,rfl,hm,h0,hb⟩:=hrel
  by_cases hlt:q<n
  ·obtain⟨x,gx⟩:∃x,l[q]?=some x:=⟨l[q]'(by have:=HN.out;omega),A8 _⟩
   obtain⟨b1,o1,p1,rfl,hblt,hcell⟩:=HX.out q (.int .i64 x) (by simp[gx])
   have hcw:wr.cell? ((⟨b1,o1,p1⟩:Addr).add q)=some (.int .i64 x):=(hb.cell (p:=(⟨b1,o1,p1⟩:Addr).add q) (by unfold Addr.add;split <;> exact hblt)).trans hcell
   have hx3:x<3:=H3.out x (C8 gx);have hcx:wr.cell? ⟨w.heap.size+1,x,none⟩=some (.bool ((M3.only (l.take q)).at_ x)):=hm.out.cell (M3.cells_at hx3);have hfr:wr.frozen? ⟨w.heap.size+1,x,none⟩=false:=hm.out.free x
   have HS:=J1 (show M3.only (l.take (q+1))=(M3.only (l.take q)).put x by rw[D7,gx];exact M3.only_snoc _ _)
   have i1:(0:Int)≤(x:Int):=by omega
   have i2:(x:Int)<3:=by omega
   clear hcell gx;go_wp2_with fail
   go_roundw
   case rel=>exact⟨q+1,by omega,by go_num,J1 (by rw[HS.out,←M3.cells_set hx3];exact hm.out.set x _),J1 (h0.out.far (by simp) _),hb.setCell (by simp) _⟩
   case measure=>simp[intOf];omega
  ·obtain rfl:q=n:=by omega
   have hm2:=hm.out
   rw[C7 (by have:=HN.out;omega),←HM.out]at hm2
   have z0:=hm2.c 0 rfl;have z1:=hm2.c 1 rfl;have z2:=hm2.c 2 rfl;have y0:=h0.out.c 0 rfl;have y1:=h0.out.c 1 rfl;have y2:=h0.out.c 2 rfl;have f0:=h0.out.free 0;have f1:=h0.out.free 1;have f2:=h0.out.free 2;clear hm2;go_wp2_with fail
   exact bodyPost_ret (v:=.agg #[m0,m1,m2]) (by simp[results,Tryz.results148,go_sem,y0,y1,y2]) rfl ⟨rfl,((hb.setCell (by simp) _).setCell (by simp) _).setCell (by simp) _⟩
theorem Lo.notI_nat {t:Nat} (h:t<3):Lo.notI (t:Int)=((2-t:Nat):Int):=by
 match t,h with
 | 0,_=>decide
 | 1,_=>decide
 | 2,_=>decide
theorem A62 (m:M3) (w:World) :
  Calls Tryz.prog 171 #[.agg #[m.1,m.2.1,m.2.2]] w fun e w'=>e=.returned (.agg #[m.2.2,m.2.1,m.1])∧Below w w w':=by
 obtain⟨W0,hW0⟩:∃W0,W0=w.alloc (Obj.cells #[m.1,m.2.1,m.2.2] 164):=⟨_,rfl⟩;obtain⟨l0,hb0⟩:=L5 (cs:=m.cells) hW0;obtain⟨W1,hW1⟩:∃W1,W1=W0.alloc (Obj.cells #[false,false,false] 164):=⟨_,rfl⟩;obtain⟨l1,hb1⟩:=L5 (cs:=[false,false,false]) hW1;obtain⟨W2,hW2⟩:∃W2,W2=W1.alloc (Obj.cells #[false,false,false] 164):=⟨_,rfl⟩;obtain⟨l2,hb2⟩:=L5 (cs:=M3.no.cells) hW2
 have hz:W0.heap.size=w.heap.size+1:=by rw[hW0];simp
 have hz1:W1.heap.size=w.heap.size+1+1:=by rw[hW1];simp[hz]
 have l02:=(l0.below hb1 l0.lt).below hb2 (by have:=l0.lt;omega)
 have l12:=l1.below hb2 l1.lt;rw[hz]at l12;rw[hz1]at l2;have HW0:=J1 hW0;have HW1:=J1 hW1;have HW2:=J1 hW2;have L0:=J1 l02;have L1:=J1 l12;have L2:=J1 l2;have HB:=J1 (J5 (J5 hb0 hb1) hb2);have HM:=J1 (M3.turn_all m);have cn:=fun(t:Nat) (h:t<3) w=>Lo.notI_nat h ▸ A2J t w;obtain⟨y0,h0⟩:∃y,y=m.1:=⟨_,rfl⟩;obtain⟨y1,h1⟩:∃y,y=m.2.1:=⟨_,rfl⟩;obtain⟨y2,h2⟩:∃y,y=m.2.2:=⟨_,rfl⟩;rw[←h0,←h1,←h2]at HW0 ⊢;rw[←h0,←h1,←h2]at HM;clear hW0 hW1 hW2 l0 l1 l2 l02 l12 hb0 hb1 hb2 hz hz1 h0 h1 h2;go_enter Tryz.func171,Tryz.ntmps171
 go_upto_region 2 with(fail)
 rw[←HW0.out,←HW1.out,←HW2.out];go_wp2_with fail
 go_loopw [5] (fun i wr=>∃q:Nat,q≤3∧i=.int .i64 q∧Hid (Lies wr (w.heap.size+1+1) 164 (m.turn q).cells)∧Hid (Lies wr w.heap.size 164 m.cells)∧Hid (Lies wr (w.heap.size+1) 164 [false,false,false])∧Below w w wr) (fun i _=>3-(intOf i).toNat)
 case atStart=>exact⟨0,E3 _,rfl,L2,L0,L1,HB.out⟩
 case round =>
  obtain⟨q,hq,rfl,hm,h0,h1,hb⟩:=hrel
  by_cases hlt:q<3
  ·obtain⟨b,hbv⟩:∃b,b=m.at_ q:=⟨_,rfl⟩;have hcx:wr.cell? ⟨w.heap.size,q,none⟩=some (.bool b):=hbv ▸ h0.out.cell (M3.cells_at hlt);have hbq:=J1 hbv.symm
   have i1:(0:Int)≤(q:Int):=by omega
   have i2:(q:Int)<3:=by omega
   clear hbv;cases b
   ·have hs2:Hid (Lies wr (w.heap.size+1+1) 164 (m.turn (q+1)).cells):=J1 (by rw[M3.turn_no hbq.out];exact hm.out)
    clear cn;go_wp2_with fail
    go_roundw
    case rel=>exact⟨q+1,by omega,by go_num,hs2,h0,h1,hb⟩
    case measure=>simp[intOf];omega
   ·obtain⟨x,hxx⟩:∃x,x=2-q:=⟨_,rfl⟩
    have hx3:x<3:=by omega
    have c1:=cn q hlt wr;rw[←hxx]at c1;have hc2:wr.cell? ⟨w.heap.size+1+1,x,none⟩=some (.bool ((m.turn q).at_ x)):=hm.out.cell (M3.cells_at hx3);have hfr:wr.frozen? ⟨w.heap.size+1+1,x,none⟩=false:=hm.out.free x
    have HS:=J1 (show m.turn (q+1)=(m.turn q).put x by rw[hxx];exact M3.turn_yes hbq.out)
    have i3:(0:Int)≤(x:Int):=by omega
    have i4:(x:Int)<3:=by omega
    clear cn hxx;go_wp2_with fail;refine c1.mono ?_;rintro e w2 ⟨rfl,rfl⟩;go_wp2_with fail
    go_roundw
    case rel=>exact⟨q+1,by omega,by go_num,J1 (by rw[HS.out,←M3.cells_set hx3];exact hm.out.set x _),J1 (h0.out.far (by simp;omega) _),J1 (h1.out.far (by simp) _),hb.setCell (by simp;omega) _⟩
    case measure=>simp[intOf];omega
  ·obtain rfl:q=3:=by omega
   have hm2:=hm.out;rw[HM.out]at hm2;have z0:=hm2.c 0 rfl;have z1:=hm2.c 1 rfl;have z2:=hm2.c 2 rfl;have x0:=h1.out.c 0 rfl;have x1:=h1.out.c 1 rfl;have x2:=h1.out.c 2 rfl;have f0:=h1.out.free 0;have f1:=h1.out.free 1;have f2:=h1.out.free 2;clear hm2 cn;dsimp only at z0 z1 z2;go_wp2_with fail
   exact bodyPost_ret (v:=.agg #[y2,y1,y0]) (by simp[results,Tryz.results171,go_sem,x0,x1,x2]) rfl ⟨rfl,((hb.setCell (by simp) _).setCell (by simp) _).setCell (by simp) _⟩
theorem A4c (a b:M3) (w:World) :
  Calls Tryz.prog 149 #[.agg #[a.1,a.2.1,a.2.2],.agg #[b.1,b.2.1,b.2.2],.func (.func 134) #[] #[]] w fun e w'=>e=.returned (.agg #[.bool (Rj.cA a b).1,.bool (Rj.cA a b).2.1,.bool (Rj.cA a b).2.2])∧Below w w w':=by
 obtain⟨⟨m0,m1,m2⟩,hM⟩:∃m,m=Rj.cA a b:=⟨_,rfl⟩;rw[←hM];have HM:=J1 hM;dsimp only;clear hM;obtain⟨W0,hW0⟩:∃W0,W0=w.alloc (Obj.cells #[a.1,a.2.1,a.2.2] 164):=⟨_,rfl⟩;obtain⟨l0,hb0⟩:=L5 (cs:=a.cells) hW0;obtain⟨W1,hW1⟩:∃W1,W1=W0.alloc (Obj.cells #[b.1,b.2.1,b.2.2] 164):=⟨_,rfl⟩;obtain⟨l1,hb1⟩:=L5 (cs:=b.cells) hW1;obtain⟨W2,hW2⟩:∃W2,W2=W1.alloc (Obj.cells #[false,false,false] 164):=⟨_,rfl⟩;obtain⟨l2,hb2⟩:=L5 (cs:=[false,false,false]) hW2;obtain⟨W3,hW3⟩:∃W3,W3=W2.alloc (Obj.cells #[false,false,false] 164):=⟨_,rfl⟩;obtain⟨l3,hb3⟩:=L5 (cs:=M3.no.cells) hW3
 have hz:W0.heap.size=w.heap.size+1:=by rw[hW0];simp
 have hz1:W1.heap.size=w.heap.size+1+1:=by rw[hW1];simp[hz]
 have hz2:W2.heap.size=w.heap.size+1+1+1:=by rw[hW2];simp[hz1]
 have l03:=((l0.below hb1 l0.lt).below hb2 (by omega)).below hb3 (by omega)
 have l13:=(l1.below hb2 l1.lt).below hb3 (by omega)
 have l23:=l2.below hb3 l2.lt;rw[hz]at l13;rw[hz1]at l23;rw[hz2]at l3
 have hsz:w.heap.size+4≤W3.heap.size:=by rw[hW3];simp[hz2]
 have HW0:=J1 hW0;have HW1:=J1 hW1;have HW2:=J1 hW2;have HW3:=J1 hW3;have L0:=J1 l03;have L1:=J1 l13;have L2:=J1 l23;have L3:=J1 l3;have HB:=J1 (J5 (J5 (J5 hb0 hb1) hb2) hb3);have HSZ:=J1 hsz
 have co:∀(s t:Nat) (hs:s<3) (ht:t<3) (W:World),Calls Tryz.prog 134 #[.slice (some ⟨W.heap.size,0,none⟩) 2 2] (W.alloc (.cells #[s,t] 3)) fun e w'=>e=.returned (.int .i64 (Rj.oA s t:Nat))∧Below W W w':=fun s t hs ht W=>by
  have k:=A2L _ [(s:Int),(t:Int)] _ (A4B W [(s:Int),(t:Int)]) (by simp)
  rw[Rj.oA_of hs ht]at k;exact k.mono fun e w' ⟨he,hb⟩=>⟨he,J5 (J6 _ _) hb⟩
 have CO:=J1 co;clear hW0 hW1 hW2 hW3 l0 l1 l2 l3 l03 l13 l23 hb0 hb1 hb2 hb3 hz hz1 hz2 hsz co;go_enter Tryz.func149,Tryz.ntmps149
 go_upto_region 2 with(fail)
 rw[←HW0.out,←HW1.out,←HW2.out,←HW3.out];go_wp2_with fail
 go_loopw [10] (fun i wr=>∃s:Nat,s≤3∧i=.int .i64 s∧Hid (Lies wr (w.heap.size+1+1+1) 164 (M3.cross Rj.oA a b (3*s)).cells)∧Hid (Lies wr w.heap.size 164 a.cells)∧Hid (Lies wr (w.heap.size+1) 164 b.cells)∧Hid (Lies wr (w.heap.size+1+1) 164 [false,false,false])∧w.heap.size+4≤wr.heap.size∧Below w w wr) (fun i _=>3-(intOf i).toNat)
 case atStart=>exact⟨0,E3 _,rfl,L3,L0,L1,L2,HSZ.out,HB.out⟩
 case round =>
  obtain⟨s,hs,rfl,hm,ha,hbb,h2,hsz,hb⟩:=hrel
  by_cases hlt:s<3
  ·have ds:decide ((s:Int)<3)=true:=by simp;omega
   go_wp2_with fail;clear ds
   go_loopw [13] (fun i wr=>∃t:Nat,t≤3∧i=.int .i64 t∧Hid (Lies wr (w.heap.size+1+1+1) 164 (M3.cross Rj.oA a b (3*s+t)).cells)∧Hid (Lies wr w.heap.size 164 a.cells)∧Hid (Lies wr (w.heap.size+1) 164 b.cells)∧Hid (Lies wr (w.heap.size+1+1) 164 [false,false,false])∧w.heap.size+4≤wr.heap.size∧Below w w wr) (fun i _=>3-(intOf i).toNat)
   case atStart=>exact⟨0,E3 _,rfl,hm,ha,hbb,h2,hsz,hb⟩
   case round =>
    clear hm ha hbb h2 hsz hb;obtain⟨t,ht,rfl,hm,ha,hbb,h2,hsz,hb⟩:=hrel
    by_cases htlt:t<3
    ·obtain⟨x,hxv⟩:∃x,x=a.at_ s:=⟨_,rfl⟩;obtain⟨y,hyv⟩:∃y,y=b.at_ t:=⟨_,rfl⟩;have hcx:wr.cell? ⟨w.heap.size,s,none⟩=some (.bool x):=hxv ▸ ha.out.cell (M3.cells_at hlt);have hcy:wr.cell? ⟨w.heap.size+1,t,none⟩=some (.bool y):=hyv ▸ hbb.out.cell (M3.cells_at htlt);have hxq:=J1 hxv.symm;have hyq:=J1 hyv.symm
     have i1:(0:Int)≤(s:Int):=by omega
     have i2:(s:Int)<3:=by omega
     have i3:(0:Int)≤(t:Int):=by omega
     have i4:(t:Int)<3:=by omega
     clear hxv hyv
     have no:(x&&y)=false→Hid (Lies wr (w.heap.size+1+1+1) 164 (M3.cross Rj.oA a b (3*s+(t+1))).cells):=fun h=>J1 (by
      rw[show 3*s+(t+1)=3*s+t+1 by omega,M3.cross_no htlt (by rw[hxq.out,hyq.out];exact h)];exact hm.out)
     cases x
     ·have hs2:=no rfl;clear no;go_wp2_with fail
      go_roundw
      case rel=>exact⟨t+1,by omega,by go_num,hs2,ha,hbb,h2,hsz,hb⟩
      case measure=>simp[intOf];omega
     ·cases y
      ·have hs2:=no rfl;clear no;go_wp2_with fail
       go_roundw
       case rel=>exact⟨t+1,by omega,by go_num,hs2,ha,hbb,h2,hsz,hb⟩
       case measure=>simp[intOf];omega
      ·obtain⟨z,hzz⟩:∃z,z=Rj.oA s t:=⟨_,rfl⟩
       have hz3:z<3:=by rw[hzz];exact Rj.oA_lt hlt htlt
       have c1:=CO.out s t hlt htlt wr;rw[←hzz]at c1
       have HS:=J1 (show M3.cross Rj.oA a b (3*s+(t+1))=(M3.cross Rj.oA a b (3*s+t)).put z by
        rw[hzz,show 3*s+(t+1)=3*s+t+1 by omega];exact M3.cross_yes htlt hxq.out hyq.out)
       have i5:(0:Int)≤(z:Int):=by omega
       have i6:(z:Int)<3:=by omega
       clear hzz no;go_wp2_with fail;refine c1.mono ?_;rintro e w2 ⟨rfl,hb2⟩
       have hm':=hm.out.below hb2 (by omega)
       have hc2:w2.cell? ⟨w.heap.size+1+1+1,z,none⟩=some (.bool ((M3.cross Rj.oA a b (3*s+t)).at_ z)):=hm'.cell (M3.cells_at hz3);have hfr:w2.frozen? ⟨w.heap.size+1+1+1,z,none⟩=false:=hm'.free z;have hmm:=J1 hm'
       have ha':=J1 (ha.out.below hb2 (by omega))
       have hbb':=J1 (hbb.out.below hb2 (by omega))
       have h2':=J1 (h2.out.below hb2 (by omega))
       have hb':=J5 hb hb2;have hsz':w.heap.size+4≤w2.heap.size:=D5 hsz hb2.size;clear hm' c1 hb2 hcx hcy;go_wp2_with fail
       go_roundw
       case rel=>exact⟨t+1,by omega,by go_num,J1 (by rw[HS.out,←M3.cells_set hz3];exact hmm.out.set z _),J1 (ha'.out.far (by simp;omega) _),J1 (hbb'.out.far (by simp) _),J1 (h2'.out.far (by simp) _),by simpa using hsz',hb'.setCell (by simp;omega) _⟩
       case measure=>simp[intOf];omega
    ·obtain rfl:t=3:=by omega
     go_wp2_with fail
     go_roundw
     case rel=>exact⟨s+1,by omega,by go_num,J1 (by rw[show 3*(s+1)=3*s+3 by omega];exact hm.out),ha,hbb,h2,hsz,hb⟩
     case measure=>simp[intOf];omega
  ·obtain rfl:s=3:=by omega
   have hm2:Lies wr (w.heap.size+1+1+1) 164 (Rj.cA a b).cells:=hm.out;rw[←HM.out]at hm2;have z0:=hm2.c 0 rfl;have z1:=hm2.c 1 rfl;have z2:=hm2.c 2 rfl;have x0:=h2.out.c 0 rfl;have x1:=h2.out.c 1 rfl;have x2:=h2.out.c 2 rfl;have f0:=h2.out.free 0;have f1:=h2.out.free 1;have f2:=h2.out.free 2;clear hm2;dsimp only at z0 z1 z2;go_wp2_with fail
   exact bodyPost_ret (v:=.agg #[m0,m1,m2]) (by simp[results,Tryz.results149,go_sem,x0,x1,x2]) rfl ⟨rfl,((hb.setCell (by simp;omega) _).setCell (by simp;omega) _).setCell (by simp;omega) _⟩
theorem A4b (a b:M3) (w:World) :
  Calls Tryz.prog 149 #[.agg #[a.1,a.2.1,a.2.2],.agg #[b.1,b.2.1,b.2.2],.func (.func 170) #[] #[]] w fun e w'=>e=.returned (.agg #[.bool (Rj.cO a b).1,.bool (Rj.cO a b).2.1,.bool (Rj.cO a b).2.2])∧Below w w w':=by
 obtain⟨⟨m0,m1,m2⟩,hM⟩:∃m,m=Rj.cO a b:=⟨_,rfl⟩;rw[←hM];have HM:=J1 hM;dsimp only;clear hM;obtain⟨W0,hW0⟩:∃W0,W0=w.alloc (Obj.cells #[a.1,a.2.1,a.2.2] 164):=⟨_,rfl⟩;obtain⟨l0,hb0⟩:=L5 (cs:=a.cells) hW0;obtain⟨W1,hW1⟩:∃W1,W1=W0.alloc (Obj.cells #[b.1,b.2.1,b.2.2] 164):=⟨_,rfl⟩;obtain⟨l1,hb1⟩:=L5 (cs:=b.cells) hW1;obtain⟨W2,hW2⟩:∃W2,W2=W1.alloc (Obj.cells #[false,false,false] 164):=⟨_,rfl⟩;obtain⟨l2,hb2⟩:=L5 (cs:=[false,false,false]) hW2;obtain⟨W3,hW3⟩:∃W3,W3=W2.alloc (Obj.cells #[false,false,false] 164):=⟨_,rfl⟩;obtain⟨l3,hb3⟩:=L5 (cs:=M3.no.cells) hW3
 have hz:W0.heap.size=w.heap.size+1:=by rw[hW0];simp
 have hz1:W1.heap.size=w.heap.size+1+1:=by rw[hW1];simp[hz]
 have hz2:W2.heap.size=w.heap.size+1+1+1:=by rw[hW2];simp[hz1]
 have l03:=((l0.below hb1 l0.lt).below hb2 (by omega)).below hb3 (by omega)
 have l13:=(l1.below hb2 l1.lt).below hb3 (by omega)
 have l23:=l2.below hb3 l2.lt;rw[hz]at l13;rw[hz1]at l23;rw[hz2]at l3
 have hsz:w.heap.size+4≤W3.heap.size:=by rw[hW3];simp[hz2]
 have HW0:=J1 hW0;have HW1:=J1 hW1;have HW2:=J1 hW2;have HW3:=J1 hW3;have L0:=J1 l03;have L1:=J1 l13;have L2:=J1 l23;have L3:=J1 l3;have HB:=J1 (J5 (J5 (J5 hb0 hb1) hb2) hb3);have HSZ:=J1 hsz
 have co:∀(s t:Nat) (hs:s<3) (ht:t<3) (W:World),Calls Tryz.prog 170 #[.slice (some ⟨W.heap.size,0,none⟩) 2 2] (W.alloc (.cells #[s,t] 3)) fun e w'=>e=.returned (.int .i64 (Rj.oO s t:Nat))∧Below W W w':=fun s t hs ht W=>by
  have k:=A34 _ [(s:Int),(t:Int)] _ (A4B W [(s:Int),(t:Int)]) (by simp)
  rw[Rj.oO_of hs ht]at k;exact k.mono fun e w' ⟨he,hb⟩=>⟨he,J5 (J6 _ _) hb⟩
 have CO:=J1 co;clear hW0 hW1 hW2 hW3 l0 l1 l2 l3 l03 l13 l23 hb0 hb1 hb2 hb3 hz hz1 hz2 hsz co;go_enter Tryz.func149,Tryz.ntmps149
 go_upto_region 2 with(fail)
 rw[←HW0.out,←HW1.out,←HW2.out,←HW3.out];go_wp2_with fail
 go_loopw [10] (fun i wr=>∃s:Nat,s≤3∧i=.int .i64 s∧Hid (Lies wr (w.heap.size+1+1+1) 164 (M3.cross Rj.oO a b (3*s)).cells)∧Hid (Lies wr w.heap.size 164 a.cells)∧Hid (Lies wr (w.heap.size+1) 164 b.cells)∧Hid (Lies wr (w.heap.size+1+1) 164 [false,false,false])∧w.heap.size+4≤wr.heap.size∧Below w w wr) (fun i _=>3-(intOf i).toNat)
 case atStart=>exact⟨0,E3 _,rfl,L3,L0,L1,L2,HSZ.out,HB.out⟩
 case round =>
  obtain⟨s,hs,rfl,hm,ha,hbb,h2,hsz,hb⟩:=hrel
  by_cases hlt:s<3
  ·have ds:decide ((s:Int)<3)=true:=by simp;omega
   go_wp2_with fail;clear ds
   go_loopw [13] (fun i wr=>∃t:Nat,t≤3∧i=.int .i64 t∧Hid (Lies wr (w.heap.size+1+1+1) 164 (M3.cross Rj.oO a b (3*s+t)).cells)∧Hid (Lies wr w.heap.size 164 a.cells)∧Hid (Lies wr (w.heap.size+1) 164 b.cells)∧Hid (Lies wr (w.heap.size+1+1) 164 [false,false,false])∧w.heap.size+4≤wr.heap.size∧Below w w wr) (fun i _=>3-(intOf i).toNat)
   case atStart=>exact⟨0,E3 _,rfl,hm,ha,hbb,h2,hsz,hb⟩
   case round =>
    clear hm ha hbb h2 hsz hb;obtain⟨t,ht,rfl,hm,ha,hbb,h2,hsz,hb⟩:=hrel
    by_cases htlt:t<3
    ·obtain⟨x,hxv⟩:∃x,x=a.at_ s:=⟨_,rfl⟩;obtain⟨y,hyv⟩:∃y,y=b.at_ t:=⟨_,rfl⟩;have hcx:wr.cell? ⟨w.heap.size,s,none⟩=some (.bool x):=hxv ▸ ha.out.cell (M3.cells_at hlt);have hcy:wr.cell? ⟨w.heap.size+1,t,none⟩=some (.bool y):=hyv ▸ hbb.out.cell (M3.cells_at htlt);have hxq:=J1 hxv.symm;have hyq:=J1 hyv.symm
     have i1:(0:Int)≤(s:Int):=by omega
     have i2:(s:Int)<3:=by omega
     have i3:(0:Int)≤(t:Int):=by omega
     have i4:(t:Int)<3:=by omega
     clear hxv hyv
     have no:(x&&y)=false→Hid (Lies wr (w.heap.size+1+1+1) 164 (M3.cross Rj.oO a b (3*s+(t+1))).cells):=fun h=>J1 (by
      rw[show 3*s+(t+1)=3*s+t+1 by omega,M3.cross_no htlt (by rw[hxq.out,hyq.out];exact h)];exact hm.out)
     cases x
     ·have hs2:=no rfl;clear no;go_wp2_with fail
      go_roundw
      case rel=>exact⟨t+1,by omega,by go_num,hs2,ha,hbb,h2,hsz,hb⟩
      case measure=>simp[intOf];omega
     ·cases y
      ·have hs2:=no rfl;clear no;go_wp2_with fail
       go_roundw
       case rel=>exact⟨t+1,by omega,by go_num,hs2,ha,hbb,h2,hsz,hb⟩
       case measure=>simp[intOf];omega
      ·obtain⟨z,hzz⟩:∃z,z=Rj.oO s t:=⟨_,rfl⟩
       have hz3:z<3:=by rw[hzz];exact Rj.oO_lt hlt htlt
       have c1:=CO.out s t hlt htlt wr;rw[←hzz]at c1
       have HS:=J1 (show M3.cross Rj.oO a b (3*s+(t+1))=(M3.cross Rj.oO a b (3*s+t)).put z by
        rw[hzz,show 3*s+(t+1)=3*s+t+1 by omega];exact M3.cross_yes htlt hxq.out hyq.out)
       have i5:(0:Int)≤(z:Int):=by omega
       have i6:(z:Int)<3:=by omega
       clear hzz no;go_wp2_with fail;refine c1.mono ?_;rintro e w2 ⟨rfl,hb2⟩
       have hm':=hm.out.below hb2 (by omega)
       have hc2:w2.cell? ⟨w.heap.size+1+1+1,z,none⟩=some (.bool ((M3.cross Rj.oO a b (3*s+t)).at_ z)):=hm'.cell (M3.cells_at hz3);have hfr:w2.frozen? ⟨w.heap.size+1+1+1,z,none⟩=false:=hm'.free z;have hmm:=J1 hm'
       have ha':=J1 (ha.out.below hb2 (by omega))
       have hbb':=J1 (hbb.out.below hb2 (by omega))
       have h2':=J1 (h2.out.below hb2 (by omega))
       have hb':=J5 hb hb2;have hsz':w.heap.size+4≤w2.heap.size:=D5 hsz hb2.size;clear hm' c1 hb2 hcx hcy;go_wp2_with fail
       go_roundw
       case rel=>exact⟨t+1,by omega,by go_num,J1 (by rw[HS.out,←M3.cells_set hz3];exact hmm.out.set z _),J1 (ha'.out.far (by simp;omega) _),J1 (hbb'.out.far (by simp) _),J1 (h2'.out.far (by simp) _),by simpa using hsz',hb'.setCell (by simp;omega) _⟩
       case measure=>simp[intOf];omega
    ·obtain rfl:t=3:=by omega
     go_wp2_with fail
     go_roundw
     case rel=>exact⟨s+1,by omega,by go_num,J1 (by rw[show 3*(s+1)=3*s+3 by omega];exact hm.out),ha,hbb,h2,hsz,hb⟩
     case measure=>simp[intOf];omega
  ·obtain rfl:s=3:=by omega
   have hm2:Lies wr (w.heap.size+1+1+1) 164 (Rj.cO a b).cells:=hm.out;rw[←HM.out]at hm2;have z0:=hm2.c 0 rfl;have z1:=hm2.c 1 rfl;have z2:=hm2.c 2 rfl;have x0:=h2.out.c 0 rfl;have x1:=h2.out.c 1 rfl;have x2:=h2.out.c 2 rfl;have f0:=h2.out.free 0;have f1:=h2.out.free 1;have f2:=h2.out.free 2;clear hm2;dsimp only at z0 z1 z2;go_wp2_with fail
   exact bodyPost_ret (v:=.agg #[m0,m1,m2]) (by simp[results,Tryz.results149,go_sem,x0,x1,x2]) rfl ⟨rfl,((hb.setCell (by simp;omega) _).setCell (by simp;omega) _).setCell (by simp;omega) _⟩
theorem S1 {W0:World} (l:List Nat) (hl:l.length≤1000) (h3:∀x∈l,x<3) {m0 m1 m2:Bool} (hm:M3.only l=(m0,m1,m2)):∀W,Below W0 W0 W→Calls Tryz.prog 148 #[.slice (some ⟨W.heap.size,0,none⟩) l.length l.length] (W.alloc (.cells (l.map fun(n:Nat)=>Value.int .i64 (n:Int)).toArray 3)) fun e w'=>e=.returned (.agg #[m0,m1,m2])∧Below W0 W0 w':=fun W hb=>by
 have k:=A63 _ l (W.alloc (.cells (l.map fun(n:Nat)=>Value.int .i64 (n:Int)).toArray 3)) (Sl.new W 3 _) hl h3;rw[hm,E0]at k;exact k.mono fun e w' ⟨he,h⟩=>⟨he,J5 hb (J5 (J6 _ _) h)⟩
theorem T8 {W0 W:World} {g:Nat} {cs:List Value} {t:TypeId} (h:Lies W0 g t cs) (hb:Below W0 W0 W):Lies W g t cs:=h.below hb h.lt
theorem A2O (f:Pf) (A:Option Addr) (n c:Nat) (N:Nat) (w:World) (hN:N<18446744073709551616) (hW:Want w) (l:List M3) (h2:f.k=2) :
  Calls Tryz.prog 168 #[.agg #[f.k,f.u,f.o,f.a.k,f.a.t,f.a.c,f.a.z,f.a.n,f.b.k,f.b.t,f.b.c,f.b.z,f.b.n,.slice A n c],.int .u64 (N:Int)] w fun e w'=>e=.returned (.agg #[.bool (Rj.made f N l).1,.bool (Rj.made f N l).2.1,.bool (Rj.made f N l).2.2])∧Below w w w':=by
 rw[Rj.made_2 h2];clear h2;obtain⟨W1,hW1⟩:∃W1,W1=w.alloc (Obj.cells #[f.k,f.u,f.o,f.a.k,f.a.t,f.a.c,f.a.z,f.a.n,f.b.k,f.b.t,f.b.c,f.b.z,f.b.n,.slice A n c] 57):=⟨_,rfl⟩;obtain⟨l1,p1,hb1⟩:=V9 hW1;obtain⟨W0,hW0⟩:∃W0,W0=W1.alloc (Obj.cells #[false,false,false] 164):=⟨_,rfl⟩;obtain⟨l0,hb0⟩:=L5 (cs:=[false,false,false]) hW0
 have hz:W1.heap.size=w.heap.size+1:=by rw[hW1];simp
 rw[hz]at l0;have lp:=l1.below hb0 l1.lt;have HB:=J1 (J5 hb1 hb0);have hW00:=hW.below HB.out (C3 _);have L1:=J1 l0;have HW1:=J1 hW1;have HW0:=J1 hW0;have hS:Below W0 W0 W0:=Below.refl _ _;have k2:=M2 (lp.pd.c2);have k3:=M2 (lp.pd.c3);have k4:=M2 (lp.pd.c4);have k5:=M2 (lp.pd.c5);have k6:=M2 (lp.pd.c6);have k7:=M2 (lp.pd.c7);have k8:=M2 (lp.pd.c8);have k9:=M2 (lp.pd.c9);have k10:=M2 (lp.pd.c10);have k11:=M2 (lp.pd.c11);have k12:=M2 (lp.pd.c12);have ca:=T3 (W0:=W0) fun W _=>A1M f.a.k f.a.t f.a.c f.a.z f.a.n N W hN;have cb:=T3 (W0:=W0) fun W _=>A1M f.b.k f.b.t f.b.c f.b.z f.b.n N W hN;have cc:=fun W=>A5A f.o W;have da:=T3 (W0:=W0) fun W _=>A1f f.a.k f.a.t f.a.c f.a.z f.a.n W;have db:=T3 (W0:=W0) fun W _=>A1f f.b.k f.b.t f.b.c f.b.z f.b.n W;have dv:=T3 (W0:=W0) fun W hb=>A1P f.o f.a.z f.b.z f.a.n f.b.n W (hW00.below hb (C3 _))
 have o1:∀W,Below W0 W0 W→Calls Tryz.prog 148 #[.slice (some ⟨W.heap.size,0,none⟩) 1 1] (W.alloc (.cells #[.int .i64 1] 3)) fun e w'=>e=.returned (.agg #[false,true,false])∧Below W0 W0 w':=S1 (W0:=W0) [1] (by simp) (by simp) (show _=(false,true,false) by decide)
 have o3:∀W,Below W0 W0 W→Calls Tryz.prog 148 #[.slice (some ⟨W.heap.size,0,none⟩) 3 3] (W.alloc (.cells #[z9,.int .i64 1,.int .i64 2] 3)) fun e w'=>e=.returned (.agg #[true,true,true])∧Below W0 W0 w':=S1 (W0:=W0) [0,1,2] (by simp) (by simp) (show _=(true,true,true) by decide)
 obtain⟨x,hx,hx3⟩:∃x:Nat,Va.comp f.o f.a.z f.a.n f.b.z f.b.n=(x:Int)∧x<3:=by
  rcases Pr.comp_cases f.o f.a.z f.a.n f.b.z f.b.n with h | h | h
  ·exact⟨0,by rw[h];rfl,by decide⟩
  ·exact⟨1,by rw[h];rfl,by decide⟩
  ·exact⟨2,by rw[h];rfl,by decide⟩
 have ov:=fun(m0 m1 m2:Bool) (hm:M3.only [x]=(m0,m1,m2))=>S1 (W0:=W0) [x] (by simp) (by simpa using hx3) hm
 rw[hx]at dv ⊢;rw[←Rj.only_one hx3];obtain⟨⟨m0,m1,m2⟩,hM⟩:∃m,m=M3.only [x]:=⟨_,rfl⟩;have ov1:∀W,Below W0 W0 W→Calls Tryz.prog 148 #[.slice (some ⟨W.heap.size,0,none⟩) 1 1] (W.alloc (.cells #[x] 3)) fun e w'=>e=.returned (.agg #[m0,m1,m2])∧Below W0 W0 w':=ov m0 m1 m2 hM.symm;rw[←hM];obtain⟨sa,hsa⟩:∃r,r=Rj.sure f.a N:=⟨_,rfl⟩;obtain⟨sb,hsb⟩:∃r,r=Rj.sure f.b N:=⟨_,rfl⟩
 obtain⟨sc,hsc⟩:∃r,r=(decide (f.o<1)||decide (6<f.o)):=⟨_,rfl⟩
 obtain⟨ta,hta⟩:∃r,r=(f.a.k == 1):=⟨_,rfl⟩;obtain⟨tb,htb⟩:∃r,r=(f.b.k == 1):=⟨_,rfl⟩
 have ca':∀W,Below W0 W0 W→Calls Tryz.prog 188 #[.agg #[f.a.k,f.a.t,f.a.c,f.a.z,f.a.n],.int .u64 (N:Int)] W fun e w'=>e=.returned (.bool sa)∧Below W0 W0 w':=by rw[hsa];exact ca
 have cb':∀W,Below W0 W0 W→Calls Tryz.prog 188 #[.agg #[f.b.k,f.b.t,f.b.c,f.b.z,f.b.n],.int .u64 (N:Int)] W fun e w'=>e=.returned (.bool sb)∧Below W0 W0 w':=by rw[hsb];exact cb
 rw[←hsc]at cc;rw[←hta]at da;rw[←htb]at db;rw[←hsa,←hsb,←hsc,←hta,←htb];clear ca cb ov hsa hsb hsc hta htb hM hx hx3 hW0 hW1 l0 l1 p1 lp hb0 hb1 hz hW hW00
 cases sa with
 | true =>
  go_enter Tryz.func168,Tryz.ntmps168
  go_upto_region 1 with(fail)
  rw[←HW1.out,←HW0.out]
  go_wp2_with (first | (with_reducible refine(ca' _ (by assumption)).mono ?_;rintro e w' ⟨rfl,hS'⟩) | (with_reducible refine(cb' _ (by assumption)).mono ?_;rintro e w' ⟨rfl,hS'⟩) | (with_reducible refine(da _ (by assumption)).mono ?_;rintro e w' ⟨rfl,hS'⟩) | (with_reducible refine(db _ (by assumption)).mono ?_;rintro e w' ⟨rfl,hS'⟩) | (with_reducible refine(dv _ (by assumption)).mono ?_;rintro e w' ⟨rfl,hS'⟩) | (with_reducible refine(cc _).mono ?_;rintro e w' ⟨rfl,rfl⟩))
  with_reducible refine(o1 _ (by assumption)).mono ?_
  rintro e w9 ⟨rfl,hS9⟩;have lr:=T8 L1.out hS9;have x0:=lr.c 0 rfl;have x1:=lr.c 1 rfl;have x2:=lr.c 2 rfl;have f0:=lr.free 0;have f1:=lr.free 1;have f2:=lr.free 2;have HF:=J1 (J5 HB.out hS9);clear lr hS9;go_wp2_with fail
  all_goals exact bodyPost_ret (v:=.agg #[false,true,false]) (by simp[results,Tryz.results168,go_sem,x0,x1,x2]) rfl ⟨by simp,((HF.out.setCell (by simp) _).setCell (by simp) _).setCell (by simp) _⟩
 | false =>
  cases sb with
  | true =>
   go_enter Tryz.func168,Tryz.ntmps168
   go_upto_region 1 with(fail)
   rw[←HW1.out,←HW0.out]
   go_wp2_with (first | (with_reducible refine(ca' _ (by assumption)).mono ?_;rintro e w' ⟨rfl,hS'⟩) | (with_reducible refine(cb' _ (by assumption)).mono ?_;rintro e w' ⟨rfl,hS'⟩) | (with_reducible refine(da _ (by assumption)).mono ?_;rintro e w' ⟨rfl,hS'⟩) | (with_reducible refine(db _ (by assumption)).mono ?_;rintro e w' ⟨rfl,hS'⟩) | (with_reducible refine(dv _ (by assumption)).mono ?_;rintro e w' ⟨rfl,hS'⟩) | (with_reducible refine(cc _).mono ?_;rintro e w' ⟨rfl,rfl⟩))
   with_reducible refine(o1 _ (by assumption)).mono ?_
   rintro e w9 ⟨rfl,hS9⟩;have lr:=T8 L1.out hS9;have x0:=lr.c 0 rfl;have x1:=lr.c 1 rfl;have x2:=lr.c 2 rfl;have f0:=lr.free 0;have f1:=lr.free 1;have f2:=lr.free 2;have HF:=J1 (J5 HB.out hS9);clear lr hS9;go_wp2_with fail
   all_goals exact bodyPost_ret (v:=.agg #[false,true,false]) (by simp[results,Tryz.results168,go_sem,x0,x1,x2]) rfl ⟨by simp,((HF.out.setCell (by simp) _).setCell (by simp) _).setCell (by simp) _⟩
  | false =>
   cases sc with
   | true =>
    go_enter Tryz.func168,Tryz.ntmps168
    go_upto_region 1 with(fail)
    rw[←HW1.out,←HW0.out]
    go_wp2_with (first | (with_reducible refine(ca' _ (by assumption)).mono ?_;rintro e w' ⟨rfl,hS'⟩) | (with_reducible refine(cb' _ (by assumption)).mono ?_;rintro e w' ⟨rfl,hS'⟩) | (with_reducible refine(da _ (by assumption)).mono ?_;rintro e w' ⟨rfl,hS'⟩) | (with_reducible refine(db _ (by assumption)).mono ?_;rintro e w' ⟨rfl,hS'⟩) | (with_reducible refine(dv _ (by assumption)).mono ?_;rintro e w' ⟨rfl,hS'⟩) | (with_reducible refine(cc _).mono ?_;rintro e w' ⟨rfl,rfl⟩))
    with_reducible refine(o1 _ (by assumption)).mono ?_
    rintro e w9 ⟨rfl,hS9⟩;have lr:=T8 L1.out hS9;have x0:=lr.c 0 rfl;have x1:=lr.c 1 rfl;have x2:=lr.c 2 rfl;have f0:=lr.free 0;have f1:=lr.free 1;have f2:=lr.free 2;have HF:=J1 (J5 HB.out hS9);clear lr hS9;go_wp2_with fail
    all_goals exact bodyPost_ret (v:=.agg #[false,true,false]) (by simp[results,Tryz.results168,go_sem,x0,x1,x2]) rfl ⟨by simp,((HF.out.setCell (by simp) _).setCell (by simp) _).setCell (by simp) _⟩
   | false =>
    cases ta with
    | true =>
     go_enter Tryz.func168,Tryz.ntmps168
     go_upto_region 1 with(fail)
     rw[←HW1.out,←HW0.out]
     go_wp2_with (first | (with_reducible refine(ca' _ (by assumption)).mono ?_;rintro e w' ⟨rfl,hS'⟩) | (with_reducible refine(cb' _ (by assumption)).mono ?_;rintro e w' ⟨rfl,hS'⟩) | (with_reducible refine(da _ (by assumption)).mono ?_;rintro e w' ⟨rfl,hS'⟩) | (with_reducible refine(db _ (by assumption)).mono ?_;rintro e w' ⟨rfl,hS'⟩) | (with_reducible refine(dv _ (by assumption)).mono ?_;rintro e w' ⟨rfl,hS'⟩) | (with_reducible refine(cc _).mono ?_;rintro e w' ⟨rfl,rfl⟩))
     with_reducible refine(o3 _ (by assumption)).mono ?_
     rintro e w9 ⟨rfl,hS9⟩;have lr:=T8 L1.out hS9;have x0:=lr.c 0 rfl;have x1:=lr.c 1 rfl;have x2:=lr.c 2 rfl;have f0:=lr.free 0;have f1:=lr.free 1;have f2:=lr.free 2;have HF:=J1 (J5 HB.out hS9);clear lr hS9;go_wp2_with fail
     all_goals exact bodyPost_ret (v:=.agg #[true,true,true]) (by simp[results,Tryz.results168,go_sem,x0,x1,x2]) rfl ⟨by simp,((HF.out.setCell (by simp) _).setCell (by simp) _).setCell (by simp) _⟩
    | false =>
     cases tb with
     | true =>
      go_enter Tryz.func168,Tryz.ntmps168
      go_upto_region 1 with(fail)
      rw[←HW1.out,←HW0.out]
      go_wp2_with (first | (with_reducible refine(ca' _ (by assumption)).mono ?_;rintro e w' ⟨rfl,hS'⟩) | (with_reducible refine(cb' _ (by assumption)).mono ?_;rintro e w' ⟨rfl,hS'⟩) | (with_reducible refine(da _ (by assumption)).mono ?_;rintro e w' ⟨rfl,hS'⟩) | (with_reducible refine(db _ (by assumption)).mono ?_;rintro e w' ⟨rfl,hS'⟩) | (with_reducible refine(dv _ (by assumption)).mono ?_;rintro e w' ⟨rfl,hS'⟩) | (with_reducible refine(cc _).mono ?_;rintro e w' ⟨rfl,rfl⟩))
      with_reducible refine(o3 _ (by assumption)).mono ?_
      rintro e w9 ⟨rfl,hS9⟩;have lr:=T8 L1.out hS9;have x0:=lr.c 0 rfl;have x1:=lr.c 1 rfl;have x2:=lr.c 2 rfl;have f0:=lr.free 0;have f1:=lr.free 1;have f2:=lr.free 2;have HF:=J1 (J5 HB.out hS9);clear lr hS9;go_wp2_with fail
      all_goals exact bodyPost_ret (v:=.agg #[true,true,true]) (by simp[results,Tryz.results168,go_sem,x0,x1,x2]) rfl ⟨by simp,((HF.out.setCell (by simp) _).setCell (by simp) _).setCell (by simp) _⟩
     | false =>
      go_enter Tryz.func168,Tryz.ntmps168
      go_upto_region 1 with(fail)
      rw[←HW1.out,←HW0.out]
      go_wp2_with (first | (with_reducible refine(ca' _ (by assumption)).mono ?_;rintro e w' ⟨rfl,hS'⟩) | (with_reducible refine(cb' _ (by assumption)).mono ?_;rintro e w' ⟨rfl,hS'⟩) | (with_reducible refine(da _ (by assumption)).mono ?_;rintro e w' ⟨rfl,hS'⟩) | (with_reducible refine(db _ (by assumption)).mono ?_;rintro e w' ⟨rfl,hS'⟩) | (with_reducible refine(dv _ (by assumption)).mono ?_;rintro e w' ⟨rfl,hS'⟩) | (with_reducible refine(cc _).mono ?_;rintro e w' ⟨rfl,rfl⟩))
      with_reducible refine(ov1 _ (by assumption)).mono ?_
      rintro e w9 ⟨rfl,hS9⟩;have lr:=T8 L1.out hS9;have x0:=lr.c 0 rfl;have x1:=lr.c 1 rfl;have x2:=lr.c 2 rfl;have f0:=lr.free 0;have f1:=lr.free 1;have f2:=lr.free 2;have HF:=J1 (J5 HB.out hS9);clear lr hS9;go_wp2_with fail
      all_goals exact bodyPost_ret (v:=.agg #[m0,m1,m2]) (by simp[results,Tryz.results168,go_sem,x0,x1,x2]) rfl ⟨by simp,((HF.out.setCell (by simp) _).setCell (by simp) _).setCell (by simp) _⟩
theorem A5B (k t c:Int) (z:Bool) (n:Int) (N:Nat) (w:World) (hN:N<18446744073709551616) :
  Calls Tryz.prog 169 #[.agg #[k,t,c,z,n],.int .u64 (N:Int)] w fun e w'=>e=.returned (.agg #[.bool (if Rj.sure ⟨k,t,c,z,n⟩ N then(false,false,true)else(true,false,k == 1):M3).1,.bool (if Rj.sure ⟨k,t,c,z,n⟩ N then(false,false,true)else(true,false,k == 1):M3).2.1,.bool (if Rj.sure ⟨k,t,c,z,n⟩ N then(false,false,true)else(true,false,k == 1):M3).2.2])∧Below w w w':=by
 obtain⟨W1,hW1⟩:∃W1,W1=w.alloc (Obj.cells #[k,t,c,z,n] 55):=⟨_,rfl⟩;obtain⟨l1,hb1⟩:=L5 (cs:=[k,t,c,z,n]) hW1;obtain⟨W0,hW0⟩:∃W0,W0=W1.alloc (Obj.cells #[false,false,false] 164):=⟨_,rfl⟩;obtain⟨l0,hb0⟩:=L5 (cs:=[false,false,false]) hW0
 have hz:W1.heap.size=w.heap.size+1:=by rw[hW1];simp
 rw[hz]at l0;have lp:=l1.below hb0 l1.lt;have HB:=J1 (J5 hb1 hb0);have L1:=J1 l0;have HW1:=J1 hW1;have HW0:=J1 hW0;have hS:Below W0 W0 W0:=Below.refl _ _;have k0:=M2 (lp.c 0 rfl);have k1:=M2 (lp.c 1 rfl);have k2:=M2 (lp.c 2 rfl);have k3:=M2 (lp.c 3 rfl);have k4:=M2 (lp.c 4 rfl);have ca:=T3 (W0:=W0) fun W _=>A1M k t c z n N W hN;have da:=T3 (W0:=W0) fun W _=>A1f k t c z n W
 have o1:∀W,Below W0 W0 W→Calls Tryz.prog 148 #[.slice (some ⟨W.heap.size,0,none⟩) 1 1] (W.alloc (.cells #[.int .i64 2] 3)) fun e w'=>e=.returned (.agg #[false,false,true])∧Below W0 W0 w':=S1 (W0:=W0) [2] (by simp) (by simp) (show _=(false,false,true) by decide)
 have o2:∀W,Below W0 W0 W→Calls Tryz.prog 148 #[.slice (some ⟨W.heap.size,0,none⟩) 2 2] (W.alloc (.cells #[z9,.int .i64 2] 3)) fun e w'=>e=.returned (.agg #[true,false,true])∧Below W0 W0 w':=S1 (W0:=W0) [0,2] (by simp) (by simp) (show _=(true,false,true) by decide)
 have o3:∀W,Below W0 W0 W→Calls Tryz.prog 148 #[.slice (some ⟨W.heap.size,0,none⟩) 1 1] (W.alloc (.cells #[z9] 3)) fun e w'=>e=.returned (.agg #[true,false,false])∧Below W0 W0 w':=S1 (W0:=W0) [0] (by simp) (by simp) (show _=(true,false,false) by decide)
 obtain⟨sa,hsa⟩:∃r,r=Rj.sure ⟨k,t,c,z,n⟩ N:=⟨_,rfl⟩;obtain⟨ta,hta⟩:∃r,r=(k == 1):=⟨_,rfl⟩;rw[←hsa]at ca;rw[←hta]at da;rw[←hsa,←hta];clear hsa hta hW0 hW1 l0 l1 lp hb0 hb1 hz
 cases sa with
 | true =>
  go_enter Tryz.func169,Tryz.ntmps169
  go_upto_region 1 with(fail)
  rw[←HW1.out,←HW0.out]
  go_wp2_with (first | (with_reducible refine(ca _ (by assumption)).mono ?_;rintro e w' ⟨rfl,hS'⟩) | (with_reducible refine(da _ (by assumption)).mono ?_;rintro e w' ⟨rfl,hS'⟩))
  with_reducible refine(o1 _ (by assumption)).mono ?_
  rintro e w9 ⟨rfl,hS9⟩;have lr:=T8 L1.out hS9;have x0:=lr.c 0 rfl;have x1:=lr.c 1 rfl;have x2:=lr.c 2 rfl;have f0:=lr.free 0;have f1:=lr.free 1;have f2:=lr.free 2;have HF:=J1 (J5 HB.out hS9);clear lr hS9;go_wp2_with fail
  all_goals exact bodyPost_ret (v:=.agg #[false,false,true]) (by simp[results,Tryz.results169,go_sem,x0,x1,x2]) rfl ⟨by simp,((HF.out.setCell (by simp) _).setCell (by simp) _).setCell (by simp) _⟩
 | false =>
  cases ta with
  | true =>
   go_enter Tryz.func169,Tryz.ntmps169
   go_upto_region 1 with(fail)
   rw[←HW1.out,←HW0.out]
   go_wp2_with (first | (with_reducible refine(ca _ (by assumption)).mono ?_;rintro e w' ⟨rfl,hS'⟩) | (with_reducible refine(da _ (by assumption)).mono ?_;rintro e w' ⟨rfl,hS'⟩))
   with_reducible refine(o2 _ (by assumption)).mono ?_
   rintro e w9 ⟨rfl,hS9⟩;have lr:=T8 L1.out hS9;have x0:=lr.c 0 rfl;have x1:=lr.c 1 rfl;have x2:=lr.c 2 rfl;have f0:=lr.free 0;have f1:=lr.free 1;have f2:=lr.free 2;have HF:=J1 (J5 HB.out hS9);clear lr hS9;go_wp2_with fail
   all_goals exact bodyPost_ret (v:=.agg #[true,false,true]) (by simp[results,Tryz.results169,go_sem,x0,x1,x2]) rfl ⟨by simp,((HF.out.setCell (by simp) _).setCell (by simp) _).setCell (by simp) _⟩
  | false =>
   go_enter Tryz.func169,Tryz.ntmps169
   go_upto_region 1 with(fail)
   rw[←HW1.out,←HW0.out]
   go_wp2_with (first | (with_reducible refine(ca _ (by assumption)).mono ?_;rintro e w' ⟨rfl,hS'⟩) | (with_reducible refine(da _ (by assumption)).mono ?_;rintro e w' ⟨rfl,hS'⟩))
   with_reducible refine(o3 _ (by assumption)).mono ?_
   rintro e w9 ⟨rfl,hS9⟩;have lr:=T8 L1.out hS9;have x0:=lr.c 0 rfl;have x1:=lr.c 1 rfl;have x2:=lr.c 2 rfl;have f0:=lr.free 0;have f1:=lr.free 1;have f2:=lr.free 2;have HF:=J1 (J5 HB.out hS9);clear lr hS9;go_wp2_with fail
   all_goals exact bodyPost_ret (v:=.agg #[true,false,false]) (by simp[results,Tryz.results169,go_sem,x0,x1,x2]) rfl ⟨by simp,((HF.out.setCell (by simp) _).setCell (by simp) _).setCell (by simp) _⟩
theorem A3s (d N:Nat) (ih:∀e,e<d→∀(f:Pf) (u:Value) (ps:List Pd) (w:World),PsAt e w u ps→Pr.sizes ps≤1000→Want w→Calls Tryz.prog 150 #[.agg #[f.k,f.u,f.o,f.a.k,f.a.t,f.a.c,f.a.z,f.a.n,f.b.k,f.b.t,f.b.c,f.b.z,f.b.n,u],.int .u64 (N:Int)] w fun e w'=>e=.returned (.agg #[.bool (Rj.may N (.mk f ps)).1,.bool (Rj.may N (.mk f ps)).2.1,.bool (Rj.may N (.mk f ps)).2.2])∧Below w w w') (u:Value) (ps:List Pd) (w:World) (hu:PsAt d w u ps) (hsz:Pr.sizes ps≤1000) (hW:Want w) :
  Calls Tryz.prog 133 #[u,.int .u64 (N:Int),.func (.func 134) #[] #[]] w fun e w'=>e=.returned (.agg #[.bool (Rj.andM (ps.map (Rj.may N))).1,.bool (Rj.andM (ps.map (Rj.may N))).2.1,.bool (Rj.andM (ps.map (Rj.may N))).2.2])∧Below w w w':=by
 obtain⟨A,c,rfl,hl⟩:=hu.form;have HU:=J1 hu;have IH:=J1 ih;have HZ:=J1 hsz;have HWa:=J1 hW;obtain⟨⟨r0,r1,r2⟩,hM⟩:∃m,m=Rj.andM (ps.map (Rj.may N)):=⟨_,rfl⟩;rw[←hM];have HM:=J1 hM;dsimp only;obtain⟨n,hn⟩:∃n,n=ps.length:=⟨_,rfl⟩;rw[←hn]at hl HU ⊢;have HN:=J1 hn;obtain⟨W0,hW0⟩:∃W0,W0=w.alloc (Obj.cells #[false,false,false] 164):=⟨_,rfl⟩;obtain⟨l0,hb0⟩:=L5 (cs:=[false,false,false]) hW0
 have c1:Calls Tryz.prog 134 #[()] W0 fun e w'=>e=.returned (.int .i64 2)∧Below W0 W0 w':=by
  have k:=A2L _ [] W0 (A6j W0) (by simp)
  rw[Lo.andI_nil]at k;exact k
 have c2:∀W,Below W0 W0 W→Calls Tryz.prog 148 #[.slice (some ⟨W.heap.size,0,none⟩) 1 1] (W.alloc (.cells #[.int .i64 2] 3)) fun e w'=>e=.returned (.agg #[false,false,true])∧Below W0 W0 w':=S1 (W0:=W0) [2] (by simp) (by simp) (show _=(false,false,true) by decide)
 have HW0:=J1 hW0;have L0:=J1 l0;have HB0:=J1 hb0;clear hn hu ih hsz hW hM hW0 l0 hb0;go_enter Tryz.func133,Tryz.ntmps133
 go_upto_region 1 with(fail)
 rw[←HW0.out];go_wp2_with fail;refine c1.mono ?_;rintro e w1 ⟨rfl,hb1⟩;clear c1;go_wp2_with fail
 with_reducible refine(c2 _ hb1).mono ?_
 rintro e w2 ⟨rfl,hb2⟩;obtain⟨T,hT⟩:∃T,T=w2.heap.size:=⟨_,rfl⟩;have hl2:=T8 L0.out hb2;have hbw2:=J5 HB0.out hb2;clear c2 hb1 hb2;go_wp2_with fail;obtain⟨W3,hW3⟩:∃W3,W3=w2.alloc (Obj.cells #[false,false,true] 164):=⟨_,rfl⟩;obtain⟨l3,hb3⟩:=L5 (cs:=[false,false,true]) hW3;rw[←hW3,←hT];rw[←hT]at l3
 have HT:w.heap.size<T:=by have:=hl2.lt;omega
 have L3:=J1 l3;have L2:=J1 (T8 hl2 hb3);have HB3:=J1 (J5 hbw2 hb3);clear hW3 l3 hb3 hl2 hbw2 hT
 go_loopw [16] (fun i wr=>∃q:Nat,q≤n∧i=.int .i64 q∧Hid (Lies wr T 164 (Rj.andM ((ps.take q).map (Rj.may N))).cells)∧Hid (Lies wr w.heap.size 164 [false,false,false])∧Below w w wr) (fun i _=>n-(intOf i).toNat)
 case atStart=>exact⟨0,E3 _,rfl,J1 (by rw[F8];exact L3.out),L2,HB3.out⟩
 case round =>
  obtain⟨q,hq,rfl,hm,h0,hb⟩:=hrel
  by_cases hlt:q<n
  ·obtain⟨p,gp⟩:∃p,ps[q]?=some p:=⟨ps[q]'(by have:=HN.out;omega),A8 _⟩
   have hu:=HU.out;rw[HN.out]at hu;obtain⟨e,b',o,s,v',he,rfl,_,hx⟩:=hu.at_ gp;obtain⟨hcell,hps⟩:=hx wr hb;obtain⟨A2,c2,rfl,_⟩:=hps.form;obtain⟨W4,hW4⟩:∃W4,W4=wr.alloc (Obj.cells #[p.f.k,p.f.u,p.f.o,p.f.a.k,p.f.a.t,p.f.a.c,p.f.a.z,p.f.a.n,p.f.b.k,p.f.b.t,p.f.b.c,p.f.b.z,p.f.b.n,.slice A2 p.ps.length c2] 57):=⟨_,rfl⟩;obtain⟨l4,hb4⟩:=L5 (cs:=p.f.cells (.slice A2 p.ps.length c2)) hW4;obtain⟨B,hB⟩:∃B,B=wr.heap.size:=⟨_,rfl⟩;rw[←hB]at l4;obtain⟨⟨m0,m1,m2⟩,hmm⟩:∃m,m=Rj.andM ((ps.take q).map (Rj.may N)):=⟨_,rfl⟩;have hm4:=T8 hm.out hb4;rw[←hmm]at hm4;obtain⟨⟨x0,x1,x2⟩,hxx⟩:∃x,x=Rj.may N p:=⟨_,rfl⟩
   have hsn:Rj.andM ((ps.take (q+1)).map (Rj.may N))=Rj.cA (m0,m1,m2) (x0,x1,x2):=by
    rw[D7,gp,hmm,hxx,List.map_append,←Rj.andM_snoc];rfl
   obtain⟨⟨y0,y1,y2⟩,hyy⟩:∃x,x=Rj.cA (m0,m1,m2) (x0,x1,x2):=⟨_,rfl⟩;rw[←hyy]at hsn
   have cm:∀W,Below W4 W4 W→Calls Tryz.prog 150 #[.agg #[p.f.k,p.f.u,p.f.o,p.f.a.k,p.f.a.t,p.f.a.c,p.f.a.z,p.f.a.n,p.f.b.k,p.f.b.t,p.f.b.c,p.f.b.z,p.f.b.n,.slice A2 p.ps.length c2],.int .u64 (N:Int)] W fun e w'=>e=.returned (.agg #[x0,x1,x2])∧Below W4 W4 w':=T3 fun W h=>by
    have h1:=J5 (J5 hb hb4) h
    have k:=IH.out e he p.f _ p.ps W ((hx W h1).2) (by have:=Pr.sizes_down gp;have:=HZ.out;omega) (HWa.out.below h1 (C3 _))
    rw[Rj.may_mk,←hxx]at k;exact k
   have cx:∀W,Below W4 W4 W→Calls Tryz.prog 149 #[.agg #[m0,m1,m2],.agg #[x0,x1,x2],.func (.func 134) #[] #[]] W fun e w'=>e=.returned (.agg #[y0,y1,y2])∧Below W4 W4 w':=T3 fun W h=>by
    have k:=A4c (m0,m1,m2) (x0,x1,x2) W;rw[←hyy]at k;exact k
   have HX4:=J1 hW4;have L4:=J1 l4;have M4:=J1 hm4;have Z4:=J1 (T8 h0.out hb4);have B4:=J1 (J5 hb hb4);have SN:=J1 hsn;have HBQ:=J1 hB;have hS:Below W4 W4 W4:=Below.refl _ _;obtain⟨k0,k1,k2,k3,k4,k5,k6,k7,k8,k9,k10,k11,k12,k13⟩:=hcell;clear hB hW4 l4 hm4 hb4 hmm hxx hyy hsn hx hps hu gp hm h0
   go_upto_region 5 with(fail)
   rw[←HX4.out,←HBQ.out];clear k0 k1 k2 k3 k4 k5 k6 k7 k8 k9 k10 k11 k12 k13;have b14:=L4.out;have y00:=M4.out.c 0 rfl;have y01:=M4.out.c 1 rfl;have y02:=M4.out.c 2 rfl;have k0:=b14.c 0 rfl;have k1:=b14.c 1 rfl;have k2:=b14.c 2 rfl;have k3:=b14.c 3 rfl;have k4:=b14.c 4 rfl;have k5:=b14.c 5 rfl;have k6:=b14.c 6 rfl;have k7:=b14.c 7 rfl;have k8:=b14.c 8 rfl;have k9:=b14.c 9 rfl;have k10:=b14.c 10 rfl;have k11:=b14.c 11 rfl;have k12:=b14.c 12 rfl;have k13:=b14.c 13 rfl;clear b14
   go_region_with (first
     | (go_at_call 150;(with_reducible refine(cm _ (by first | assumption | exact Below.drew (by assumption))).mono ?_);rintro e w5 ⟨rfl,hS5⟩;have lt5:=T8 M4.out hS5;have z0:=lt5.c 0 rfl;have z1:=lt5.c 1 rfl;have z2:=lt5.c 2 rfl)
     | (go_at_call 149;(with_reducible refine(cx _ (by first | assumption | exact Below.drew (by assumption))).mono ?_);rintro e w6 ⟨rfl,hS6⟩;have lt6:=T8 M4.out hS6;have t0:=lt6.c 0 rfl;have t1:=lt6.c 1 rfl;have t2:=lt6.c 2 rfl;have f0:=lt6.free 0;have f1:=lt6.free 1;have f2:=lt6.free 2))
   all_goals
    have HT6:=J1 lt6;have HS6:=J1 hS6;clear lt6 hS6 t0 t1 t2 f0 f1 f2 cm cx;go_wp2_with fail
    go_roundw
    case rel=>exact⟨q+1,by omega,by go_num,J1 (by rw[SN.out];exact((HT6.out.set 0 (.bool y0)).set 1 (.bool y1)).set 2 (.bool y2)),J1 ((((T8 Z4.out HS6.out).far (by simp;omega) _).far (by simp;omega) _).far (by simp;omega) _),(((J5 B4.out HS6.out).setCell (by simp;omega) _).setCell (by simp;omega) _).setCell (by simp;omega) _⟩
    case measure=>simp[intOf];omega
  ·obtain rfl:n=q:=by omega
   have hm2:=hm.out
   rw[C7 (by have:=HN.out;omega),←HM.out]at hm2
   have z0:=hm2.c 0 rfl;have z1:=hm2.c 1 rfl;have z2:=hm2.c 2 rfl;have x0:=h0.out.c 0 rfl;have x1:=h0.out.c 1 rfl;have x2:=h0.out.c 2 rfl;have f0:=h0.out.free 0;have f1:=h0.out.free 1;have f2:=h0.out.free 2;clear hm2;dsimp only at z0 z1 z2;go_wp2_with fail
   all_goals exact bodyPost_ret (v:=.agg #[r0,r1,r2]) (by simp[results,Tryz.results133,go_sem,x0,x1,x2]) rfl ⟨rfl,((hb.setCell (by simp) _).setCell (by simp) _).setCell (by simp) _⟩
theorem A65 (d N:Nat) (ih:∀e,e<d→∀(f:Pf) (u:Value) (ps:List Pd) (w:World),PsAt e w u ps→Pr.sizes ps≤1000→Want w→Calls Tryz.prog 150 #[.agg #[f.k,f.u,f.o,f.a.k,f.a.t,f.a.c,f.a.z,f.a.n,f.b.k,f.b.t,f.b.c,f.b.z,f.b.n,u],.int .u64 (N:Int)] w fun e w'=>e=.returned (.agg #[.bool (Rj.may N (.mk f ps)).1,.bool (Rj.may N (.mk f ps)).2.1,.bool (Rj.may N (.mk f ps)).2.2])∧Below w w w') (u:Value) (ps:List Pd) (w:World) (hu:PsAt d w u ps) (hsz:Pr.sizes ps≤1000) (hW:Want w) :
  Calls Tryz.prog 133 #[u,.int .u64 (N:Int),.func (.func 170) #[] #[]] w fun e w'=>e=.returned (.agg #[.bool (Rj.orM (ps.map (Rj.may N))).1,.bool (Rj.orM (ps.map (Rj.may N))).2.1,.bool (Rj.orM (ps.map (Rj.may N))).2.2])∧Below w w w':=by
 obtain⟨A,c,rfl,hl⟩:=hu.form;have HU:=J1 hu;have IH:=J1 ih;have HZ:=J1 hsz;have HWa:=J1 hW;obtain⟨⟨r0,r1,r2⟩,hM⟩:∃m,m=Rj.orM (ps.map (Rj.may N)):=⟨_,rfl⟩;rw[←hM];have HM:=J1 hM;dsimp only;obtain⟨n,hn⟩:∃n,n=ps.length:=⟨_,rfl⟩;rw[←hn]at hl HU ⊢;have HN:=J1 hn;obtain⟨W0,hW0⟩:∃W0,W0=w.alloc (Obj.cells #[false,false,false] 164):=⟨_,rfl⟩;obtain⟨l0,hb0⟩:=L5 (cs:=[false,false,false]) hW0
 have c1:Calls Tryz.prog 170 #[()] W0 fun e w'=>e=.returned (.int .i64 0)∧Below W0 W0 w':=by
  have k:=A34 _ [] W0 (A6j W0) (by simp)
  rw[Lo.orI_nil]at k;exact k
 have c2:∀W,Below W0 W0 W→Calls Tryz.prog 148 #[.slice (some ⟨W.heap.size,0,none⟩) 1 1] (W.alloc (.cells #[z9] 3)) fun e w'=>e=.returned (.agg #[true,false,false])∧Below W0 W0 w':=S1 (W0:=W0) [0] (by simp) (by simp) (show _=(true,false,false) by decide)
 have HW0:=J1 hW0;have L0:=J1 l0;have HB0:=J1 hb0;clear hn hu ih hsz hW hM hW0 l0 hb0;go_enter Tryz.func133,Tryz.ntmps133
 go_upto_region 1 with(fail)
 rw[←HW0.out];go_wp2_with fail;refine c1.mono ?_;rintro e w1 ⟨rfl,hb1⟩;clear c1;go_wp2_with fail
 with_reducible refine(c2 _ hb1).mono ?_
 rintro e w2 ⟨rfl,hb2⟩;obtain⟨T,hT⟩:∃T,T=w2.heap.size:=⟨_,rfl⟩;have hl2:=T8 L0.out hb2;have hbw2:=J5 HB0.out hb2;clear c2 hb1 hb2;go_wp2_with fail;obtain⟨W3,hW3⟩:∃W3,W3=w2.alloc (Obj.cells #[true,false,false] 164):=⟨_,rfl⟩;obtain⟨l3,hb3⟩:=L5 (cs:=[true,false,false]) hW3;rw[←hW3,←hT];rw[←hT]at l3
 have HT:w.heap.size<T:=by have:=hl2.lt;omega
 have L3:=J1 l3;have L2:=J1 (T8 hl2 hb3);have HB3:=J1 (J5 hbw2 hb3);clear hW3 l3 hb3 hl2 hbw2 hT
 go_loopw [16] (fun i wr=>∃q:Nat,q≤n∧i=.int .i64 q∧Hid (Lies wr T 164 (Rj.orM ((ps.take q).map (Rj.may N))).cells)∧Hid (Lies wr w.heap.size 164 [false,false,false])∧Below w w wr) (fun i _=>n-(intOf i).toNat)
 case atStart=>exact⟨0,E3 _,rfl,J1 (by rw[F8];exact L3.out),L2,HB3.out⟩
 case round =>
  obtain⟨q,hq,rfl,hm,h0,hb⟩:=hrel
  by_cases hlt:q<n
  ·obtain⟨p,gp⟩:∃p,ps[q]?=some p:=⟨ps[q]'(by have:=HN.out;omega),A8 _⟩
   have hu:=HU.out;rw[HN.out]at hu;obtain⟨e,b',o,s,v',he,rfl,_,hx⟩:=hu.at_ gp;obtain⟨hcell,hps⟩:=hx wr hb;obtain⟨A2,c2,rfl,_⟩:=hps.form;obtain⟨W4,hW4⟩:∃W4,W4=wr.alloc (Obj.cells #[p.f.k,p.f.u,p.f.o,p.f.a.k,p.f.a.t,p.f.a.c,p.f.a.z,p.f.a.n,p.f.b.k,p.f.b.t,p.f.b.c,p.f.b.z,p.f.b.n,.slice A2 p.ps.length c2] 57):=⟨_,rfl⟩;obtain⟨l4,hb4⟩:=L5 (cs:=p.f.cells (.slice A2 p.ps.length c2)) hW4;obtain⟨B,hB⟩:∃B,B=wr.heap.size:=⟨_,rfl⟩;rw[←hB]at l4;obtain⟨⟨m0,m1,m2⟩,hmm⟩:∃m,m=Rj.orM ((ps.take q).map (Rj.may N)):=⟨_,rfl⟩;have hm4:=T8 hm.out hb4;rw[←hmm]at hm4;obtain⟨⟨x0,x1,x2⟩,hxx⟩:∃x,x=Rj.may N p:=⟨_,rfl⟩
   have hsn:Rj.orM ((ps.take (q+1)).map (Rj.may N))=Rj.cO (m0,m1,m2) (x0,x1,x2):=by
    rw[D7,gp,hmm,hxx,List.map_append,←Rj.orM_snoc];rfl
   obtain⟨⟨y0,y1,y2⟩,hyy⟩:∃x,x=Rj.cO (m0,m1,m2) (x0,x1,x2):=⟨_,rfl⟩;rw[←hyy]at hsn
   have cm:∀W,Below W4 W4 W→Calls Tryz.prog 150 #[.agg #[p.f.k,p.f.u,p.f.o,p.f.a.k,p.f.a.t,p.f.a.c,p.f.a.z,p.f.a.n,p.f.b.k,p.f.b.t,p.f.b.c,p.f.b.z,p.f.b.n,.slice A2 p.ps.length c2],.int .u64 (N:Int)] W fun e w'=>e=.returned (.agg #[x0,x1,x2])∧Below W4 W4 w':=T3 fun W h=>by
    have h1:=J5 (J5 hb hb4) h
    have k:=IH.out e he p.f _ p.ps W ((hx W h1).2) (by have:=Pr.sizes_down gp;have:=HZ.out;omega) (HWa.out.below h1 (C3 _))
    rw[Rj.may_mk,←hxx]at k;exact k
   have cx:∀W,Below W4 W4 W→Calls Tryz.prog 149 #[.agg #[m0,m1,m2],.agg #[x0,x1,x2],.func (.func 170) #[] #[]] W fun e w'=>e=.returned (.agg #[y0,y1,y2])∧Below W4 W4 w':=T3 fun W h=>by
    have k:=A4b (m0,m1,m2) (x0,x1,x2) W;rw[←hyy]at k;exact k
   have HX4:=J1 hW4;have L4:=J1 l4;have M4:=J1 hm4;have Z4:=J1 (T8 h0.out hb4);have B4:=J1 (J5 hb hb4);have SN:=J1 hsn;have HBQ:=J1 hB;have hS:Below W4 W4 W4:=Below.refl _ _;obtain⟨k0,k1,k2,k3,k4,k5,k6,k7,k8,k9,k10,k11,k12,k13⟩:=hcell;clear hB hW4 l4 hm4 hb4 hmm hxx hyy hsn hx hps hu gp hm h0
   go_upto_region 5 with(fail)
   rw[←HX4.out,←HBQ.out];clear k0 k1 k2 k3 k4 k5 k6 k7 k8 k9 k10 k11 k12 k13;have b14:=L4.out;have y00:=M4.out.c 0 rfl;have y01:=M4.out.c 1 rfl;have y02:=M4.out.c 2 rfl;have k0:=b14.c 0 rfl;have k1:=b14.c 1 rfl;have k2:=b14.c 2 rfl;have k3:=b14.c 3 rfl;have k4:=b14.c 4 rfl;have k5:=b14.c 5 rfl;have k6:=b14.c 6 rfl;have k7:=b14.c 7 rfl;have k8:=b14.c 8 rfl;have k9:=b14.c 9 rfl;have k10:=b14.c 10 rfl;have k11:=b14.c 11 rfl;have k12:=b14.c 12 rfl;have k13:=b14.c 13 rfl;clear b14
   go_region_with (first
     | (go_at_call 150;(with_reducible refine(cm _ (by first | assumption | exact Below.drew (by assumption))).mono ?_);rintro e w5 ⟨rfl,hS5⟩;have lt5:=T8 M4.out hS5;have z0:=lt5.c 0 rfl;have z1:=lt5.c 1 rfl;have z2:=lt5.c 2 rfl)
     | (go_at_call 149;(with_reducible refine(cx _ (by first | assumption | exact Below.drew (by assumption))).mono ?_);rintro e w6 ⟨rfl,hS6⟩;have lt6:=T8 M4.out hS6;have t0:=lt6.c 0 rfl;have t1:=lt6.c 1 rfl;have t2:=lt6.c 2 rfl;have f0:=lt6.free 0;have f1:=lt6.free 1;have f2:=lt6.free 2))
   all_goals
    have HT6:=J1 lt6;have HS6:=J1 hS6;clear lt6 hS6 t0 t1 t2 f0 f1 f2 cm cx;go_wp2_with fail
    go_roundw
    case rel=>exact⟨q+1,by omega,by go_num,J1 (by rw[SN.out];exact((HT6.out.set 0 (.bool y0)).set 1 (.bool y1)).set 2 (.bool y2)),J1 ((((T8 Z4.out HS6.out).far (by simp;omega) _).far (by simp;omega) _).far (by simp;omega) _),(((J5 B4.out HS6.out).setCell (by simp;omega) _).setCell (by simp;omega) _).setCell (by simp;omega) _⟩
    case measure=>simp[intOf];omega
  ·obtain rfl:n=q:=by omega
   have hm2:=hm.out
   rw[C7 (by have:=HN.out;omega),←HM.out]at hm2
   have z0:=hm2.c 0 rfl;have z1:=hm2.c 1 rfl;have z2:=hm2.c 2 rfl;have x0:=h0.out.c 0 rfl;have x1:=h0.out.c 1 rfl;have x2:=h0.out.c 2 rfl;have f0:=h0.out.free 0;have f1:=h0.out.free 1;have f2:=h0.out.free 2;clear hm2;dsimp only at z0 z1 z2;go_wp2_with fail
   all_goals exact bodyPost_ret (v:=.agg #[r0,r1,r2]) (by simp[results,Tryz.results133,go_sem,x0,x1,x2]) rfl ⟨rfl,((hb.setCell (by simp) _).setCell (by simp) _).setCell (by simp) _⟩
theorem Rj.made_rest {f:Pf} {N:Nat} {l:List M3} {ts:List Int} (h2:f.k≠2) (h3:f.k≠3) (h4:f.k≠4) (h5:f.k≠5) (h6:f.k=6→l=[]∧ts=[]):Rj.made f N l=M3.one (Pr.made f [] ts):=by
 by_cases h1:f.k=1
 ·rw[Rj.made_1 h1,Pr.made_1 h1]
  by_cases e0:f.u=0
  ·rw[e0];decide
  by_cases e1:f.u=1
  ·rw[e1];decide
  by_cases e2:f.u=2
  ·rw[e2];decide
  ·rw[Lo.andI_one (by simp;omega) (by simp;omega)]
   have a0:(f.u == 0)=false:=by simpa using e0
   have a1:(f.u == 1)=false:=by simpa using e1
   have a2:(f.u == 2)=false:=by simpa using e2
   have a3:(decide (f.u<0)||decide (2<f.u))=true:=by simp;omega
   rw[a0,a1,a2,a3];decide
 ·by_cases h6':f.k=6
  ·obtain⟨rfl,rfl⟩:=h6 h6';rw[Rj.made_6n h6',Pr.made_6n h6'];decide
  ·rw[Rj.made_no h1 h2 h3 h4 h5 h6',Pr.made_no h1 h2 h3 h4 h5 h6'];decide
theorem A9c (N:Nat) (hN:N<18446744073709551616) (d:Nat):∀(f:Pf) (u:Value) (ps:List Pd) (w:World),PsAt d w u ps→Pr.sizes ps≤1000→Want w →
  Calls Tryz.prog 150 #[.agg #[f.k,f.u,f.o,f.a.k,f.a.t,f.a.c,f.a.z,f.a.n,f.b.k,f.b.t,f.b.c,f.b.z,f.b.n,u],.int .u64 (N:Int)] w fun e w'=>e=.returned (.agg #[.bool (Rj.may N (.mk f ps)).1,.bool (Rj.may N (.mk f ps)).2.1,.bool (Rj.may N (.mk f ps)).2.2])∧Below w w w':=by
 induction d using Nat.strongRecOn with
 | ind d ih =>
 intro f u ps w hu hsz hW;obtain⟨A,c,rfl,hl⟩:=hu.form;rw[Rj.may_eq];obtain⟨W1,hW1⟩:∃W1,W1=w.alloc (Obj.cells #[f.k,f.u,f.o,f.a.k,f.a.t,f.a.c,f.a.z,f.a.n,f.b.k,f.b.t,f.b.c,f.b.z,f.b.n,.slice A ps.length c] 57):=⟨_,rfl⟩;obtain⟨l1,p1,hb1⟩:=V9 hW1;obtain⟨W0,hW0⟩:∃W0,W0=W1.alloc (Obj.cells #[false,false,false] 164):=⟨_,rfl⟩;obtain⟨l0,hb0⟩:=L5 (cs:=[false,false,false]) hW0
 have hz:W1.heap.size=w.heap.size+1:=by rw[hW1];simp
 rw[hz]at l0;have lp:=l1.below hb0 l1.lt;have hB:=J5 hb1 hb0;have HB:=J1 hB;have hW00:=hW.below hB (C3 _);have hu0:=hu.below hB (C3 _);have L1:=J1 l0;have HW1:=J1 hW1;have HW0:=J1 hW0;have hS:Below W0 W0 W0:=Below.refl _ _;obtain⟨k0,k1,k2,k3,k4,k5,k6,k7,k8,k9,k10,k11,k12,k13⟩:=lp.pd;have HU:=J1 hu0;have HWW:=J1 hW00;have HZ:=J1 hsz;have IH:=J1 ih;clear hW0 hW1 l0 l1 p1 lp hb0 hb1 hz hW hW00 hu hu0 hB hsz ih
 by_cases h2:f.k=2
 ·have cc:=A2O f A ps.length c N W0 hN HWW.out (ps.map (Rj.may N)) h2;obtain⟨⟨x0,x1,x2⟩,hxx⟩:∃x,x=Rj.made f N (ps.map (Rj.may N)):=⟨_,rfl⟩;rw[←hxx]at cc ⊢;dsimp only at cc ⊢;have HK:=J1 h2;clear hxx h2;rw[HK.out]at HW1 k0 cc ⊢;go_enter Tryz.func150,Tryz.ntmps150
  go_upto_region 1 with(fail)
  rw[←HW1.out,←HW0.out];go_wp2_with fail;refine cc.mono ?_;rintro e w9 ⟨rfl,hS9⟩;clear cc k0 k1 k2 k3 k4 k5 k6 k7 k8 k9 k10 k11 k12 k13;have lr:=T8 L1.out hS9;have t0:=lr.c 0 rfl;have t1:=lr.c 1 rfl;have t2:=lr.c 2 rfl;have f0:=lr.free 0;have f1:=lr.free 1;have f2:=lr.free 2;have HF9:=J1 (J5 HB.out hS9);clear lr hS9;go_wp2_with fail
  all_goals exact bodyPost_ret (v:=.agg #[x0,x1,x2]) (by simp[results,Tryz.results150,go_sem,t0,t1,t2]) rfl ⟨rfl,((HF9.out.setCell (by simp) _).setCell (by simp) _).setCell (by simp) _⟩
 by_cases h3:f.k=3
 ·have cc:=A5B f.a.k f.a.t f.a.c f.a.z f.a.n N W0 hN;rw[←Rj.made_3 (f:=f) (N:=N) (l:=ps.map (Rj.may N)) h3]at cc;obtain⟨⟨x0,x1,x2⟩,hxx⟩:∃x,x=Rj.made f N (ps.map (Rj.may N)):=⟨_,rfl⟩;rw[←hxx]at cc ⊢;dsimp only at cc ⊢;have HK:=J1 h3;clear hxx h3 h2;rw[HK.out]at HW1 k0 ⊢;go_enter Tryz.func150,Tryz.ntmps150
  go_upto_region 1 with(fail)
  rw[←HW1.out,←HW0.out];go_wp2_with fail;refine cc.mono ?_;rintro e w9 ⟨rfl,hS9⟩;clear cc k0 k1 k2 k3 k4 k5 k6 k7 k8 k9 k10 k11 k12 k13;have lr:=T8 L1.out hS9;have t0:=lr.c 0 rfl;have t1:=lr.c 1 rfl;have t2:=lr.c 2 rfl;have f0:=lr.free 0;have f1:=lr.free 1;have f2:=lr.free 2;have HF9:=J1 (J5 HB.out hS9);clear lr hS9;go_wp2_with fail
  all_goals exact bodyPost_ret (v:=.agg #[x0,x1,x2]) (by simp[results,Tryz.results150,go_sem,t0,t1,t2]) rfl ⟨rfl,((HF9.out.setCell (by simp) _).setCell (by simp) _).setCell (by simp) _⟩
 by_cases h4:f.k=4
 ·have cc:=A3s d N IH.out _ ps W0 HU.out HZ.out HWW.out;rw[←Rj.made_4 (f:=f) (N:=N) h4]at cc;obtain⟨⟨x0,x1,x2⟩,hxx⟩:∃x,x=Rj.made f N (ps.map (Rj.may N)):=⟨_,rfl⟩;rw[←hxx]at cc ⊢;dsimp only at cc ⊢;have HK:=J1 h4;clear hxx h4 h2 h3;rw[HK.out]at HW1 k0 ⊢;go_enter Tryz.func150,Tryz.ntmps150
  go_upto_region 1 with(fail)
  rw[←HW1.out,←HW0.out];go_wp2_with fail;refine cc.mono ?_;rintro e w9 ⟨rfl,hS9⟩;clear cc k0 k1 k2 k3 k4 k5 k6 k7 k8 k9 k10 k11 k12 k13;have lr:=T8 L1.out hS9;have t0:=lr.c 0 rfl;have t1:=lr.c 1 rfl;have t2:=lr.c 2 rfl;have f0:=lr.free 0;have f1:=lr.free 1;have f2:=lr.free 2;have HF9:=J1 (J5 HB.out hS9);clear lr hS9;go_wp2_with fail
  all_goals exact bodyPost_ret (v:=.agg #[x0,x1,x2]) (by simp[results,Tryz.results150,go_sem,t0,t1,t2]) rfl ⟨rfl,((HF9.out.setCell (by simp) _).setCell (by simp) _).setCell (by simp) _⟩
 by_cases h5:f.k=5
 ·have cc:=A65 d N IH.out _ ps W0 HU.out HZ.out HWW.out;rw[←Rj.made_5 (f:=f) (N:=N) h5]at cc;obtain⟨⟨x0,x1,x2⟩,hxx⟩:∃x,x=Rj.made f N (ps.map (Rj.may N)):=⟨_,rfl⟩;rw[←hxx]at cc ⊢;dsimp only at cc ⊢;have HK:=J1 h5;clear hxx h5 h2 h3 h4;rw[HK.out]at HW1 k0 ⊢;go_enter Tryz.func150,Tryz.ntmps150
  go_upto_region 1 with(fail)
  rw[←HW1.out,←HW0.out];go_wp2_with fail;refine cc.mono ?_;rintro e w9 ⟨rfl,hS9⟩;clear cc k0 k1 k2 k3 k4 k5 k6 k7 k8 k9 k10 k11 k12 k13;have lr:=T8 L1.out hS9;have t0:=lr.c 0 rfl;have t1:=lr.c 1 rfl;have t2:=lr.c 2 rfl;have f0:=lr.free 0;have f1:=lr.free 1;have f2:=lr.free 2;have HF9:=J1 (J5 HB.out hS9);clear lr hS9;go_wp2_with fail
  all_goals exact bodyPost_ret (v:=.agg #[x0,x1,x2]) (by simp[results,Tryz.results150,go_sem,t0,t1,t2]) rfl ⟨rfl,((HF9.out.setCell (by simp) _).setCell (by simp) _).setCell (by simp) _⟩
 have e2:(f.k == 2)=false:=by simpa using h2
 have e3:(f.k == 3)=false:=by simpa using h3
 have e4:(f.k == 4)=false:=by simpa using h4
 have e5:(f.k == 5)=false:=by simpa using h5
 by_cases h6:f.k=6∧ps≠[]
 ·obtain⟨h6,hne⟩:=h6
  cases ps with
  | nil=>exact absurd rfl hne
  | cons p rest =>
  obtain⟨e,b',o,s,v',he,rfl,_,hx⟩:=HU.out.at_ (j:=0) (p:=p) rfl;obtain⟨hcell,hps⟩:=hx W0 hS
  rw[show(⟨b',o,s⟩:Addr).add (0*14)=⟨b',o,s⟩ by simp[Addr.add]]at hcell
  have cm:=IH.out e he p.f v' p.ps W0 hps (by have:=Pr.sizes_down (l:=p::rest) (j:=0) (p:=p) rfl;have:=HZ.out;omega) HWW.out
  rw[Rj.may_mk]at cm;rw[List.map_cons,Rj.made_6c h6];obtain⟨⟨x0,x1,x2⟩,hxx⟩:∃x,x=Rj.may N p:=⟨_,rfl⟩;rw[←hxx]at cm ⊢;dsimp only at cm ⊢;have ct:=fun W=>A62 (x0,x1,x2) W;dsimp only at ct;obtain⟨y0,y1,y2,y3,y4,y5,y6,y7,y8,y9,y10,y11,y12,y13⟩:=hcell
  have hpos:0<(p::rest).length:=by simp
  obtain⟨n,hn⟩:∃n,n=(p::rest).length:=⟨_,rfl⟩;rw[←hn]at hl HU HW1 k13 hpos ⊢;have HN:=J1 hn;clear hxx hx hps hn hne e2 e3 e4 e5 h2 h3 h4 h5;rw[h6]at HW1 k0 ⊢;go_enter Tryz.func150,Tryz.ntmps150
  go_upto_region 1 with(fail)
  rw[←HW1.out,←HW0.out];go_wp2_with fail;refine cm.mono ?_;rintro e w5 ⟨rfl,hS5⟩;clear cm k0 k1 k2 k3 k4 k5 k6 k7 k8 k9 k10 k11 k12 k13 y0 y1 y2 y3 y4 y5 y6 y7 y8 y9 y10 y11 y12 y13;go_wp2_with fail;refine(ct _).mono ?_;rintro e w9 ⟨rfl,hS6⟩;have hS9:=J5 hS5 hS6;clear ct hS5 hS6;have lr:=T8 L1.out hS9;have t0:=lr.c 0 rfl;have t1:=lr.c 1 rfl;have t2:=lr.c 2 rfl;have f0:=lr.free 0;have f1:=lr.free 1;have f2:=lr.free 2;have HF9:=J1 (J5 HB.out hS9);clear lr hS9;go_wp2_with fail
  all_goals exact bodyPost_ret (v:=.agg #[x2,x1,x0]) (by simp[results,Tryz.results150,go_sem,t0,t1,t2]) rfl ⟨rfl,((HF9.out.setCell (by simp) _).setCell (by simp) _).setCell (by simp) _⟩
 ·have co:=A9f d f _ ps (.slice none 0 0) [] W0 HU.out HZ.out (Rws.nil W0) HWW.out;rw[Pr.of_at]at co
  have hr:Rj.made f N (ps.map (Rj.may N))=M3.one (Pr.made f [] (ps.map (Pr.of []))):=Rj.made_rest h2 h3 h4 h5 (fun h=>by
   have:ps=[]:=G9 fun hc=>h6 ⟨h,hc⟩;rw[this];exact⟨rfl,rfl⟩)
  obtain⟨x,hx,hx3⟩:∃x:Nat,Pr.made f [] (ps.map (Pr.of []))=(x:Int)∧x<3:=by
   have:=Pr.of_cases [] (.mk f ps);rw[Pr.of_at]at this
   rcases this with h | h | h
   ·exact⟨0,by rw[show Pr.made f [] (ps.map (Pr.of []))=0 from h];rfl,by decide⟩
   ·exact⟨1,by rw[show Pr.made f [] (ps.map (Pr.of []))=1 from h];rfl,by decide⟩
   ·exact⟨2,by rw[show Pr.made f [] (ps.map (Pr.of []))=2 from h];rfl,by decide⟩
  have co':Calls Tryz.prog 172 #[.agg #[f.k,f.u,f.o,f.a.k,f.a.t,f.a.c,f.a.z,f.a.n,f.b.k,f.b.t,f.b.c,f.b.z,f.b.n,.slice A ps.length c],()] W0 fun e w'=>e=.returned (.int .i64 (x:Int))∧Below W0 W0 w':=by
   rw[←hx];exact co
  rw[hr,hx,←Rj.only_one hx3];obtain⟨⟨m0,m1,m2⟩,hM⟩:∃m,m=M3.only [x]:=⟨_,rfl⟩
  have o1:∀W,Below W0 W0 W→Calls Tryz.prog 148 #[.slice (some ⟨W.heap.size,0,none⟩) 1 1] (W.alloc (.cells #[x] 3)) fun e w'=>e=.returned (.agg #[m0,m1,m2])∧Below W0 W0 w':=S1 (W0:=W0) [x] (by simp) (by simpa using hx3) hM.symm
  rw[←hM];dsimp only
  have hcase:(f.k == 6)=false∨(f.k=6∧ps.length=0):=by
   by_cases h:f.k=6
   ·exact .inr ⟨h,by
     have:ps=[]:=G9 fun hc=>h6 ⟨h,hc⟩;rw[this];rfl⟩
   ·exact .inl (by simpa using h)
  clear hM hx hx3 hr h6 co h2 h3 h4 h5
  rcases hcase with e6 | ⟨h6,hl0⟩
  ·go_enter Tryz.func150,Tryz.ntmps150
   go_upto_region 1 with(fail)
   rw[←HW1.out,←HW0.out];go_wp2_with fail;refine co'.mono ?_;rintro e w5 ⟨rfl,hS5⟩;clear co' k0 k1 k2 k3 k4 k5 k6 k7 k8 k9 k10 k11 k12 k13 e2 e3 e4 e5 e6;go_wp2_with fail
   with_reducible refine(o1 _ hS5).mono ?_
   rintro e w9 ⟨rfl,hS9⟩;clear o1 hS5;have lr:=T8 L1.out hS9;have t0:=lr.c 0 rfl;have t1:=lr.c 1 rfl;have t2:=lr.c 2 rfl;have f0:=lr.free 0;have f1:=lr.free 1;have f2:=lr.free 2;have HF9:=J1 (J5 HB.out hS9);clear lr hS9;go_wp2_with fail
   all_goals exact bodyPost_ret (v:=.agg #[m0,m1,m2]) (by simp[results,Tryz.results150,go_sem,t0,t1,t2]) rfl ⟨rfl,((HF9.out.setCell (by simp) _).setCell (by simp) _).setCell (by simp) _⟩
  ·have HF:=J1 h6;rw[hl0]at co' HW1 HU k13 ⊢;have HL:=J1 hl0;clear hl0 hl;rw[HF.out]at co' HW1 k0 ⊢;clear h6 e2 e3 e4 e5;go_enter Tryz.func150,Tryz.ntmps150
   go_upto_region 1 with(fail)
   rw[←HW1.out,←HW0.out];go_wp2_with fail;refine co'.mono ?_;rintro e w5 ⟨rfl,hS5⟩;clear co' k0 k1 k2 k3 k4 k5 k6 k7 k8 k9 k10 k11 k12 k13;go_wp2_with fail
   with_reducible refine(o1 _ hS5).mono ?_
   rintro e w9 ⟨rfl,hS9⟩;clear o1 hS5;have lr:=T8 L1.out hS9;have t0:=lr.c 0 rfl;have t1:=lr.c 1 rfl;have t2:=lr.c 2 rfl;have f0:=lr.free 0;have f1:=lr.free 1;have f2:=lr.free 2;have HF9:=J1 (J5 HB.out hS9);clear lr hS9;go_wp2_with fail
   all_goals exact bodyPost_ret (v:=.agg #[m0,m1,m2]) (by simp[results,Tryz.results150,go_sem,t0,t1,t2]) rfl ⟨rfl,((HF9.out.setCell (by simp) _).setCell (by simp) _).setCell (by simp) _⟩
theorem A9y (a b c:Bool) (w:World):(Instr.index 164 (.agg #[a,b,c]) (.int .i64 2)).run Tryz.prog w=.ok (.bool c) w:=by kernel_rfl
theorem A72 (d N:Nat) (hN:N<18446744073709551616) (u:Value) (ps:List Pd) (w:World) (hu:PsAt d w u ps) (hsz:Pr.sizes ps≤1000) (hW:Want w) :
  Calls Tryz.prog 109 #[u,.int .u64 (N:Int)] w fun e w'=>e=.returned (.bool (Rj.rejects N ps))∧Below w w w':=by
 have cc:=A3s d N (fun e _=>A9c N hN e) u ps w hu hsz hW;have hr:Rj.rejects N ps=!(Rj.andM (ps.map (Rj.may N))).2.2:=rfl;obtain⟨A,c,rfl,hl⟩:=hu.form;obtain⟨⟨x0,x1,x2⟩,hxx⟩:∃x,x=Rj.andM (ps.map (Rj.may N)):=⟨_,rfl⟩;rw[←hxx]at cc hr;rw[hr];dsimp only at cc ⊢;clear hr hxx hW hu hsz;go_enter Tryz.func109,Tryz.ntmps109;go_wp2_with fail;refine cc.mono ?_;rintro e w5 ⟨rfl,hS5⟩;have hi:=A9y x0 x1 x2;clear cc;go_wp2_with fail;go_ret;exact⟨rfl,hS5⟩
end Go.Proofs.YtbddhkgbpjhhaaaGreatDoor
