/-
  LAID TOGETHER, BY PROGRAM, of: Bga, Bgr.
-/
import Derived.Test.YtbddhkgbpjhhaaaGreatDoorGPl2
import Derived.Test.YtbddhkgbpjhhaaaGreatDoorGBase
import Derived.Lib.QuietBelow
import Derived.BigQuiet
import Derived.Deep.Cut
set_option maxHeartbeats 1600000
set_option maxRecDepth 100000
namespace Go.Proofs.YtbddhkgbpjhhaaaGreatDoor
open Go.RowKit Go.Sort
theorem A7w (b c:Bool) (n m:Int) (w:World) :
  Calls Tryz.prog 65 #[.agg #[b,n],.agg #[c,m]] w fun e w'=>e=.returned (.int .i64 (Bg.cv (b,n) (c,m)))∧Below w w w':=by
 obtain⟨W0,hW0⟩:∃W0,W0=(w.alloc (Obj.cells #[b,n] 53)).alloc (Obj.cells #[c,m] 53):=⟨_,rfl⟩;obtain⟨l0,l1,hb0⟩:=B0s hW0;have cs:=A7Y b c n m W0;have cl:=fun W=>A2K b c n m W;have hcv:Bg.cv (b,n) (c,m)=if Va.same b n c m then 0 else if Va.less b n c m then -1 else 1:=rfl;rw[hcv];clear hcv;generalize Va.same b n c m=s at cs ⊢;generalize Va.less b n c m=l at cl ⊢;have HW:=J1 hW0;have L0:=J1 l0;have L1:=J1 l1;have j0:W0.cell? ⟨w.heap.size,0,none⟩=some (.bool b):=l0.cell rfl;have j1:W0.cell? ⟨w.heap.size,1,none⟩=some (.int .i64 n):=l0.cell rfl;have k0:W0.cell? ⟨w.heap.size+1,0,none⟩=some (.bool c):=l1.cell rfl;have k1:W0.cell? ⟨w.heap.size+1,1,none⟩=some (.int .i64 m):=l1.cell rfl;clear hW0 l0 l1;go_enter Tryz.func65,Tryz.ntmps65
 go_upto_region 1 with(fail)
 rw[←HW.out];cases s
 ·go_wp2_with (fail);refine cs.mono ?_;rintro E w1 ⟨rfl,hb1⟩;clear cs j0 j1 k0 k1;have l0:=L0.out.below hb1 L0.out.lt;have l1:=L1.out.below hb1 L1.out.lt;have j0:w1.cell? ⟨w.heap.size,0,none⟩=some (.bool b):=l0.cell rfl;have j1:w1.cell? ⟨w.heap.size,1,none⟩=some (.int .i64 n):=l0.cell rfl;have k0:w1.cell? ⟨w.heap.size+1,0,none⟩=some (.bool c):=l1.cell rfl;have k1:w1.cell? ⟨w.heap.size+1,1,none⟩=some (.int .i64 m):=l1.cell rfl;cases l
  all_goals
   go_wp2_with (fail);refine(cl w1).mono ?_;rintro E w2 ⟨rfl,hb2⟩;clear cl;go_wp2_with (fail);go_ret;exact⟨rfl,J5 hb0 (J5 hb1 hb2)⟩
 ·go_wp2_with (fail);refine cs.mono ?_;rintro E w1 ⟨rfl,hb1⟩;clear cs cl;go_wp2_with (fail);go_ret;exact⟨rfl,J5 hb0 hb1⟩
theorem A31 (a:Int) (w:World):Calls Tryz.prog 104 #[a] w fun e w'=>e=.returned (.bool false)∧w=w':=by
 go_enter Tryz.func104,Tryz.ntmps104
 go_wp2
 go_ret
 exact⟨J8 (by simp),rfl⟩
theorem A4Z (a b:Int) (w:World):Calls Tryz.prog 62 #[a,b] w fun e w'=>e=.returned (.int .i64 (if a<b then -1 else if a>b then 1 else 0))∧w=w':=by
 rcases Int.lt_trichotomy a b with h | h | h
 ·rw[if_pos h];go_enter Tryz.func62,Tryz.ntmps62
  go_wp2_with (first | (go_at_call 104;refine(A31 _ _).mono ?_;rintro e w' ⟨rfl,rfl⟩))
  go_ret;exact⟨rfl,rfl⟩
 ·have h1:¬(a<b):=by omega
  have h2:¬(a>b):=by omega
  rw[if_neg h1,if_neg h2];clear h;go_enter Tryz.func62,Tryz.ntmps62
  go_wp2_with (first | (go_at_call 104;refine(A31 _ _).mono ?_;rintro e w' ⟨rfl,rfl⟩))
  go_ret;exact⟨rfl,rfl⟩
 ·have h1:¬(a<b):=by omega
  rw[if_neg h1,if_pos h];go_enter Tryz.func62,Tryz.ntmps62
  go_wp2_with (first | (go_at_call 104;refine(A31 _ _).mono ?_;rintro e w' ⟨rfl,rfl⟩))
  go_ret;exact⟨rfl,rfl⟩
theorem A7s (a b:Nat):(if(a:Int)<(b:Int)then(-1:Int)else if(a:Int)>(b:Int)then 1 else 0)=if a<b then -1 else if a>b then 1 else 0:=by
 by_cases h:a<b
 ·rw[if_pos (by omega),if_pos h]
 ·rw[if_neg (by omega),if_neg h]
  by_cases g:a>b
  ·rw[if_pos (by omega),if_pos g]
  ·rw[if_neg (by omega),if_neg g]
theorem RwsOf.pick {w:World} {A:Option Addr} {c n:Nat} {vs:List Value} {r:List (List Vl)} {j:Nat} {x:List Vl} (h:RwsOf w (.slice A n c) vs r) (hj:r[j]?=some x) :
  ∃b o p,∃e:Value,A=some ⟨b,o,p⟩∧∀W,Below w w W→W.cell? ((⟨b,o,p⟩:Addr).add j)=some e∧RowAt W e x:=by
 obtain⟨u,hu,hrow⟩:=h.row j x hj;obtain⟨A',c',hv,_,hx⟩:=h.sl;cases hv;obtain⟨b,o,p,hA,hlt,hc⟩:=hx j u hu
 exact⟨b,o,p,u,hA,fun W hb=>⟨(hb.cell (by rw[L7];exact hlt)).trans hc,hrow.below hb (C3 _)⟩⟩
theorem A7o (u v:Value) (r s:List Vl) (w:World) (hu:RowAt w u r) (hv:RowAt w v s) (hr:r.length≤4611686018427387904) (hs:s.length≤4611686018427387904) :
  Calls Tryz.prog 64 #[u,v,.func (.func 65) #[] #[]] w fun e w'=>e=.returned (.int .i64 (Bg.cr r s))∧Below w w w':=by
 obtain⟨A,c,rfl,_,_⟩:=id hu;obtain⟨A',c',rfl,_,_⟩:=id hv;have hpu:=fun(j:Nat) (x:Vl) (hj:r[j]?=some x)=>hu.pair hj;have hpv:=fun(j:Nat) (x:Vl) (hj:s[j]?=some x)=>hv.pair hj;have HU:=J1 hpu;have HV:=J1 hpv;obtain⟨n,hn⟩:∃n,n=r.length:=⟨_,rfl⟩;obtain⟨m,hm⟩:∃m,m=s.length:=⟨_,rfl⟩;have cl:=fun W=>A4Z (n:Int) (m:Int) W;rw[A7s]at cl
 have hend:(∀j x y,j<min n m→r[j]?=some x→s[j]?=some y→Bg.cv x y=0)→Bg.cr r s=if n<m then -1 else if n>m then 1 else 0:=fun h=>by
  rw[hn,hm];exact Bg.lex_end (by rw[←hn,←hm];exact h)
 rw[←hn]at hr ⊢;rw[←hm]at hs ⊢;have HN:=J1 hn;have HM:=J1 hm;have HE:=J1 hend;clear hpu hpv hu hv hn hm hend
 by_cases g:n≤m
 ·skip
  have hS:=Below.refl w w
  have g':(n:Int)≤(m:Int):=by omega
  have HG:=J1 g;go_enter Tryz.func64,Tryz.ntmps64;go_wp2_with (fail)
  have hq:n=min n m:=by have:=HG.out;omega
  have HQ:=J1 hq;clear g' hq g
  go_loopw [14] (fun i wr=>∃(k:Nat),k≤n∧i=.int .i64 k∧Hid (∀j x y,j<k→r[j]?=some x→s[j]?=some y→Bg.cv x y=0)∧Below w w wr) (fun i _=>n-(intOf i).toNat)
  case atStart=>exact⟨0,E3 _,rfl,J1 fun j x y h=>by omega,hS⟩
  case round =>
   obtain⟨k,hk,rfl,hz,hb⟩:=hrel
   by_cases hlt:k<n
   ·obtain⟨x,gx⟩:∃x,r[k]?=some x:=⟨r[k]'(by have:=HN.out;have:=HQ.out;omega),A8 _⟩
    obtain⟨y,gy⟩:∃y,s[k]?=some y:=⟨s[k]'(by have:=HM.out;have:=HQ.out;omega),A8 _⟩
    obtain⟨b1,o1,p1,rfl,hl1,h1⟩:=HU.out k x gx;obtain⟨b2,o2,p2,rfl,hl2,h2⟩:=HV.out k y gy
    have i1:(0:Int)≤(k:Int):=by omega
    have i2:(k:Int)<(n:Int):=by have:=HQ.out;omega
    have i3:(k:Int)<(m:Int):=by have:=HQ.out;omega
    have y1:=cell_regrown (h1 wr hb).1;have y2:=cell_regrown (h1 wr hb).2;have y3:=cell_regrown (h2 wr hb).1;have y4:=cell_regrown (h2 wr hb).2;obtain⟨d,hd⟩:∃d,d=Bg.cv x y:=⟨_,rfl⟩;have cc:=N7 (W0:=wr) fun W _=>A7w x.1 y.1 x.2 y.2 W
    rw[show Bg.cv (x.1,x.2) (y.1,y.2)=d from hd.symm]at cc
    have HD:=J1 hd;have GX:=J1 gx;have GY:=J1 gy;clear h1 h2 gx gy hd;go_wp2_with (fail)
    refine wp_region_quiet_below (by kernel_rfl) (by kernel_rfl) ?_
    repeat(go_big_quiet_step (with_reducible exact cc _ _))
    refine wpQuiet_nil ?_;intro _ hw';obtain⟨⟨dq,osq⟩,hw''⟩:=hw';subst hw'';have hb2:=J5 hb (below_regrown wr dq osq);clear y1 y2 y3 y4 i1 i2 i3 hb cc;generalize grow (redrawn wr dq) osq=w7 at hb2 ⊢
    by_cases hd0:d=0
    ·have hz2:Hid (∀j x y,j<k+1→r[j]?=some x→s[j]?=some y→Bg.cv x y=0):=J1 fun j x' y' hj hx hy=>by
      rcases Nat.lt_or_eq_of_le (Nat.le_of_lt_succ hj)with g | g
      ·exact hz.out j x' y' g hx hy
      ·subst g;rw[GX.out]at hx;rw[GY.out]at hy
       cases hx;cases hy
       rw[←HD.out,hd0]
     subst hd0;go_wp2_with (fail)
     go_roundw
     case rel=>exact⟨k+1,by omega,by go_num,hz2,hb2⟩
     case measure=>simp[intOf];omega
    ·have hres:Hid (d=Bg.cr r s):=J1 (by
      have e:Bg.cr r s=Bg.cv x y:=Bg.lex_at GX.out GY.out hz.out (by rw[←HD.out];exact hd0)
      rw[e];exact HD.out)
     go_wp2_with (fail);go_ret;exact⟨M1 hres.out,hb2⟩
   ·have hres:Hid ((if n<m then(-1:Int)else if n>m then 1 else 0)=Bg.cr r s):=J1 (HE.out fun j x y hj=>hz.out j x y (by have:=HQ.out;omega)).symm
    generalize (if n<m then(-1:Int)else if n>m then 1 else 0)=D at cl hres
    go_wp2_with (first | (go_at_call 62;refine(cl _).mono ?_;rintro e w' ⟨rfl,rfl⟩))
    go_ret;exact⟨M1 hres.out,hb⟩
 ·skip
  have hS:=Below.refl w w
  have g':¬((n:Int)≤(m:Int)):=by omega
  have HG:=J1 g;go_enter Tryz.func64,Tryz.ntmps64;go_wp2_with (fail)
  have hq:m=min n m:=by have:=HG.out;omega
  have HQ:=J1 hq;clear g' hq g
  go_loopw [14] (fun i wr=>∃(k:Nat),k≤m∧i=.int .i64 k∧Hid (∀j x y,j<k→r[j]?=some x→s[j]?=some y→Bg.cv x y=0)∧Below w w wr) (fun i _=>m-(intOf i).toNat)
  case atStart=>exact⟨0,E3 _,rfl,J1 fun j x y h=>by omega,hS⟩
  case round =>
   obtain⟨k,hk,rfl,hz,hb⟩:=hrel
   by_cases hlt:k<m
   ·obtain⟨x,gx⟩:∃x,r[k]?=some x:=⟨r[k]'(by have:=HN.out;have:=HQ.out;omega),A8 _⟩
    obtain⟨y,gy⟩:∃y,s[k]?=some y:=⟨s[k]'(by have:=HM.out;have:=HQ.out;omega),A8 _⟩
    obtain⟨b1,o1,p1,rfl,hl1,h1⟩:=HU.out k x gx;obtain⟨b2,o2,p2,rfl,hl2,h2⟩:=HV.out k y gy
    have i1:(0:Int)≤(k:Int):=by omega
    have i2:(k:Int)<(n:Int):=by have:=HQ.out;omega
    have i3:(k:Int)<(m:Int):=by have:=HQ.out;omega
    have y1:=cell_regrown (h1 wr hb).1;have y2:=cell_regrown (h1 wr hb).2;have y3:=cell_regrown (h2 wr hb).1;have y4:=cell_regrown (h2 wr hb).2;obtain⟨d,hd⟩:∃d,d=Bg.cv x y:=⟨_,rfl⟩;have cc:=N7 (W0:=wr) fun W _=>A7w x.1 y.1 x.2 y.2 W
    rw[show Bg.cv (x.1,x.2) (y.1,y.2)=d from hd.symm]at cc
    have HD:=J1 hd;have GX:=J1 gx;have GY:=J1 gy;clear h1 h2 gx gy hd;go_wp2_with (fail)
    refine wp_region_quiet_below (by kernel_rfl) (by kernel_rfl) ?_
    repeat(go_big_quiet_step (with_reducible exact cc _ _))
    refine wpQuiet_nil ?_;intro _ hw';obtain⟨⟨dq,osq⟩,hw''⟩:=hw';subst hw'';have hb2:=J5 hb (below_regrown wr dq osq);clear y1 y2 y3 y4 i1 i2 i3 hb cc;generalize grow (redrawn wr dq) osq=w7 at hb2 ⊢
    by_cases hd0:d=0
    ·have hz2:Hid (∀j x y,j<k+1→r[j]?=some x→s[j]?=some y→Bg.cv x y=0):=J1 fun j x' y' hj hx hy=>by
      rcases Nat.lt_or_eq_of_le (Nat.le_of_lt_succ hj)with g | g
      ·exact hz.out j x' y' g hx hy
      ·subst g;rw[GX.out]at hx;rw[GY.out]at hy
       cases hx;cases hy
       rw[←HD.out,hd0]
     subst hd0;go_wp2_with (fail)
     go_roundw
     case rel=>exact⟨k+1,by omega,by go_num,hz2,hb2⟩
     case measure=>simp[intOf];omega
    ·have hres:Hid (d=Bg.cr r s):=J1 (by
      have e:Bg.cr r s=Bg.cv x y:=Bg.lex_at GX.out GY.out hz.out (by rw[←HD.out];exact hd0)
      rw[e];exact HD.out)
     go_wp2_with (fail);go_ret;exact⟨M1 hres.out,hb2⟩
   ·have hres:Hid ((if n<m then(-1:Int)else if n>m then 1 else 0)=Bg.cr r s):=J1 (HE.out fun j x y hj=>hz.out j x y (by have:=HQ.out;omega)).symm
    generalize (if n<m then(-1:Int)else if n>m then 1 else 0)=D at cl hres
    go_wp2_with (first | (go_at_call 62;refine(cl _).mono ?_;rintro e w' ⟨rfl,rfl⟩))
    go_ret;exact⟨M1 hres.out,hb⟩
theorem A2T (u v:Value) (r s:List Vl) (w:World) (hu:RowAt w u r) (hv:RowAt w v s) (hr:r.length≤4611686018427387904) (hs:s.length≤4611686018427387904) :
  Calls Tryz.prog 36 #[u,v] w fun e w'=>e=.returned (.int .i64 (Bg.cr r s))∧Below w w w':=by
 have cc:=A7o u v r s w hu hv hr hs;go_enter Tryz.func36,Tryz.ntmps36;go_wp2_with (fail);refine cc.mono ?_;rintro E w1 ⟨rfl,hb1⟩;clear cc;go_wp2_with (fail);go_ret;exact⟨rfl,hb1⟩
theorem A7q (u v:Value) (vs us:List Value) (r s:List (List Vl)) (w:World) (hu:RwsOf w u vs r) (hv:RwsOf w v us s) (hr:r.length≤4611686018427387904) (hs:s.length≤4611686018427387904) (hr2:∀x∈r,x.length≤4611686018427387904) (hs2:∀x∈s,x.length≤4611686018427387904) :
  Calls Tryz.prog 34 #[u,v,.func (.func 36) #[] #[]] w fun e w'=>e=.returned (.int .i64 (Bg.lex Bg.cr r s))∧Below w w w':=by
 obtain⟨A,c,rfl,_,_⟩:=Rws.at_ ⟨vs,hu⟩;obtain⟨A',c',rfl,_,_⟩:=Rws.at_ ⟨us,hv⟩;have hpu:=fun(j:Nat) (x:List Vl) (hj:r[j]?=some x)=>hu.pick hj;have HR2:=J1 hr2;have hpv:=fun(j:Nat) (x:List Vl) (hj:s[j]?=some x)=>hv.pick hj;have HS2:=J1 hs2;clear hr2 hs2;have HU:=J1 hpu;have HV:=J1 hpv;obtain⟨n,hn⟩:∃n,n=r.length:=⟨_,rfl⟩;obtain⟨m,hm⟩:∃m,m=s.length:=⟨_,rfl⟩;have cl:=fun W=>A4Z (n:Int) (m:Int) W;rw[A7s]at cl
 have hend:(∀j x y,j<min n m→r[j]?=some x→s[j]?=some y→Bg.cr x y=0)→Bg.lex Bg.cr r s=if n<m then -1 else if n>m then 1 else 0:=fun h=>by
  rw[hn,hm];exact Bg.lex_end (by rw[←hn,←hm];exact h)
 rw[←hn]at hr ⊢;rw[←hm]at hs ⊢;have HN:=J1 hn;have HM:=J1 hm;have HE:=J1 hend;clear hpu hpv hu hv hn hm hend
 by_cases g:n≤m
 ·skip
  have hS:=Below.refl w w
  have g':(n:Int)≤(m:Int):=by omega
  have HG:=J1 g;go_enter Tryz.func34,Tryz.ntmps34;go_wp2_with (fail)
  have hq:n=min n m:=by have:=HG.out;omega
  have HQ:=J1 hq;clear g' hq g
  go_loopw [14] (fun i wr=>∃(k:Nat),k≤n∧i=.int .i64 k∧Hid (∀j x y,j<k→r[j]?=some x→s[j]?=some y→Bg.cr x y=0)∧Below w w wr) (fun i _=>n-(intOf i).toNat)
  case atStart=>exact⟨0,E3 _,rfl,J1 fun j x y h=>by omega,hS⟩
  case round =>
   obtain⟨k,hk,rfl,hz,hb⟩:=hrel
   by_cases hlt:k<n
   ·obtain⟨x,gx⟩:∃x,r[k]?=some x:=⟨r[k]'(by have:=HN.out;have:=HQ.out;omega),A8 _⟩
    obtain⟨y,gy⟩:∃y,s[k]?=some y:=⟨s[k]'(by have:=HM.out;have:=HQ.out;omega),A8 _⟩
    obtain⟨b1,o1,p1,e1,rfl,h1⟩:=HU.out k x gx;obtain⟨b2,o2,p2,e2,rfl,h2⟩:=HV.out k y gy
    have i1:(0:Int)≤(k:Int):=by omega
    have i2:(k:Int)<(n:Int):=by have:=HQ.out;omega
    have i3:(k:Int)<(m:Int):=by have:=HQ.out;omega
    have y1:=cell_regrown (h1 wr hb).1;have y3:=cell_regrown (h2 wr hb).1;obtain⟨d,hd⟩:∃d,d=Bg.cr x y:=⟨_,rfl⟩;have cc:=N7 (W0:=wr) fun W h=>A2T _ _ x y W ((h1 wr hb).2.below h (C3 _)) ((h2 wr hb).2.below h (C3 _)) (HR2.out x (C8 gx)) (HS2.out y (C8 gy));rw[←hd]at cc;have HD:=J1 hd;have GX:=J1 gx;have GY:=J1 gy;clear h1 h2 gx gy hd;go_wp2_with (fail)
    refine wp_region_quiet_below (by kernel_rfl) (by kernel_rfl) ?_
    repeat(go_big_quiet_step (with_reducible exact cc _ _))
    refine wpQuiet_nil ?_;intro _ hw';obtain⟨⟨dq,osq⟩,hw''⟩:=hw';subst hw'';have hb2:=J5 hb (below_regrown wr dq osq);clear y1 y3 i1 i2 i3 hb cc;generalize grow (redrawn wr dq) osq=w7 at hb2 ⊢
    by_cases hd0:d=0
    ·have hz2:Hid (∀j x y,j<k+1→r[j]?=some x→s[j]?=some y→Bg.cr x y=0):=J1 fun j x' y' hj hx hy=>by
      rcases Nat.lt_or_eq_of_le (Nat.le_of_lt_succ hj)with g | g
      ·exact hz.out j x' y' g hx hy
      ·subst g;rw[GX.out]at hx;rw[GY.out]at hy
       cases hx;cases hy
       rw[←HD.out,hd0]
     subst hd0;go_wp2_with (fail)
     go_roundw
     case rel=>exact⟨k+1,by omega,by go_num,hz2,hb2⟩
     case measure=>simp[intOf];omega
    ·have hres:Hid (d=Bg.lex Bg.cr r s):=J1 (by
      have e:Bg.lex Bg.cr r s=Bg.cr x y:=Bg.lex_at GX.out GY.out hz.out (by rw[←HD.out];exact hd0)
      rw[e];exact HD.out)
     go_wp2_with (fail);go_ret;exact⟨M1 hres.out,hb2⟩
   ·have hres:Hid ((if n<m then(-1:Int)else if n>m then 1 else 0)=Bg.lex Bg.cr r s):=J1 (HE.out fun j x y hj=>hz.out j x y (by have:=HQ.out;omega)).symm
    generalize (if n<m then(-1:Int)else if n>m then 1 else 0)=D at cl hres
    go_wp2_with (first | (go_at_call 62;refine(cl _).mono ?_;rintro e w' ⟨rfl,rfl⟩))
    go_ret;exact⟨M1 hres.out,hb⟩
 ·skip
  have hS:=Below.refl w w
  have g':¬((n:Int)≤(m:Int)):=by omega
  have HG:=J1 g;go_enter Tryz.func34,Tryz.ntmps34;go_wp2_with (fail)
  have hq:m=min n m:=by have:=HG.out;omega
  have HQ:=J1 hq;clear g' hq g
  go_loopw [14] (fun i wr=>∃(k:Nat),k≤m∧i=.int .i64 k∧Hid (∀j x y,j<k→r[j]?=some x→s[j]?=some y→Bg.cr x y=0)∧Below w w wr) (fun i _=>m-(intOf i).toNat)
  case atStart=>exact⟨0,E3 _,rfl,J1 fun j x y h=>by omega,hS⟩
  case round =>
   obtain⟨k,hk,rfl,hz,hb⟩:=hrel
   by_cases hlt:k<m
   ·obtain⟨x,gx⟩:∃x,r[k]?=some x:=⟨r[k]'(by have:=HN.out;have:=HQ.out;omega),A8 _⟩
    obtain⟨y,gy⟩:∃y,s[k]?=some y:=⟨s[k]'(by have:=HM.out;have:=HQ.out;omega),A8 _⟩
    obtain⟨b1,o1,p1,e1,rfl,h1⟩:=HU.out k x gx;obtain⟨b2,o2,p2,e2,rfl,h2⟩:=HV.out k y gy
    have i1:(0:Int)≤(k:Int):=by omega
    have i2:(k:Int)<(n:Int):=by have:=HQ.out;omega
    have i3:(k:Int)<(m:Int):=by have:=HQ.out;omega
    have y1:=cell_regrown (h1 wr hb).1;have y3:=cell_regrown (h2 wr hb).1;obtain⟨d,hd⟩:∃d,d=Bg.cr x y:=⟨_,rfl⟩;have cc:=N7 (W0:=wr) fun W h=>A2T _ _ x y W ((h1 wr hb).2.below h (C3 _)) ((h2 wr hb).2.below h (C3 _)) (HR2.out x (C8 gx)) (HS2.out y (C8 gy));rw[←hd]at cc;have HD:=J1 hd;have GX:=J1 gx;have GY:=J1 gy;clear h1 h2 gx gy hd;go_wp2_with (fail)
    refine wp_region_quiet_below (by kernel_rfl) (by kernel_rfl) ?_
    repeat(go_big_quiet_step (with_reducible exact cc _ _))
    refine wpQuiet_nil ?_;intro _ hw';obtain⟨⟨dq,osq⟩,hw''⟩:=hw';subst hw'';have hb2:=J5 hb (below_regrown wr dq osq);clear y1 y3 i1 i2 i3 hb cc;generalize grow (redrawn wr dq) osq=w7 at hb2 ⊢
    by_cases hd0:d=0
    ·have hz2:Hid (∀j x y,j<k+1→r[j]?=some x→s[j]?=some y→Bg.cr x y=0):=J1 fun j x' y' hj hx hy=>by
      rcases Nat.lt_or_eq_of_le (Nat.le_of_lt_succ hj)with g | g
      ·exact hz.out j x' y' g hx hy
      ·subst g;rw[GX.out]at hx;rw[GY.out]at hy
       cases hx;cases hy
       rw[←HD.out,hd0]
     subst hd0;go_wp2_with (fail)
     go_roundw
     case rel=>exact⟨k+1,by omega,by go_num,hz2,hb2⟩
     case measure=>simp[intOf];omega
    ·have hres:Hid (d=Bg.lex Bg.cr r s):=J1 (by
      have e:Bg.lex Bg.cr r s=Bg.cr x y:=Bg.lex_at GX.out GY.out hz.out (by rw[←HD.out];exact hd0)
      rw[e];exact HD.out)
     go_wp2_with (fail);go_ret;exact⟨M1 hres.out,hb2⟩
   ·have hres:Hid ((if n<m then(-1:Int)else if n>m then 1 else 0)=Bg.lex Bg.cr r s):=J1 (HE.out fun j x y hj=>hz.out j x y (by have:=HQ.out;omega)).symm
    generalize (if n<m then(-1:Int)else if n>m then 1 else 0)=D at cl hres
    go_wp2_with (first | (go_at_call 62;refine(cl _).mono ?_;rintro e w' ⟨rfl,rfl⟩))
    go_ret;exact⟨M1 hres.out,hb⟩
end Go.Proofs.YtbddhkgbpjhhaaaGreatDoor
