/-
  LAID TOGETHER, BY PROGRAM, of: Trs, Tra, Trb, Trc, Trd, Trf, Trg, Trh, Tri, Trj.
-/
import Derived.Test.YtbddhkgbpjhhaaaGreatDoorGPl2
import Derived.Test.YtbddhkgbpjhhaaaGreatDoorGPred
import Derived.Test.YtbddhkgbpjhhaaaGreatDoorGBase
import Derived.Lib.QuietBelow
import Derived.BigQuiet
set_option maxHeartbeats 3200000
set_option maxRecDepth 100000
namespace Go.Proofs.YtbddhkgbpjhhaaaGreatDoor
open Go.RowKit
def Tr.cells (a:Tr) (u v:Value):List Value:=[a.k,a.t,u,v,a.h]
structure TrCell (w:World) (X:Addr) (a:Tr) (u v:Value):Prop where
 c0:w.cell? X=some (.int .i64 a.k)
 c1:w.cell? ⟨X.block,X.off+1,none⟩=some (.int .i64 a.t)
 c2:w.cell? ⟨X.block,X.off+2,none⟩=some u
 c3:w.cell? ⟨X.block,X.off+3,none⟩=some v
 c4:w.cell? ⟨X.block,X.off+4,none⟩=some (.bool a.h)
theorem TrCell.below {w w':World} {B:Nat} {X:Addr} {a:Tr} {u v:Value} (h:TrCell w X a u v) (hb:Below B w w') (hX:X.block<B):TrCell w' X a u v :=
 have k:∀n,w'.cell? ⟨X.block,n,none⟩=w.cell? ⟨X.block,n,none⟩:=fun n=>hb.cell (p:=⟨X.block,n,none⟩) hX
 ⟨(hb.cell hX).trans h.c0,(k _).trans h.c1,(k _).trans h.c2,(k _).trans h.c3,(k _).trans h.c4⟩
theorem Lies.tr {w:World} {g:Nat} {T:TypeId} {a:Tr} {u v:Value} (h:Lies w g T (a.cells u v)):TrCell w ⟨g,0,none⟩ a u v :=
 ⟨h.c 0 rfl,h.c 1 rfl,h.c 2 rfl,h.c 3 rfl,h.c 4 rfl⟩
def PsSome (w:World) (v:Value) (l:List Pd):Prop:=∃d,PsAt d w v l
theorem PsSome.below {w w':World} {B:Nat} {v:Value} {l:List Pd} (h:PsSome w v l) (hb:Below B w w') (hB:w.heap.size≤B):PsSome w' v l:=by
 obtain⟨d,h⟩:=h;exact⟨d,h.below hb hB⟩
def TsAt:Nat→World→Value→List Tr→Prop
 | 0,_,v,l=>l=[]∧∃A c,v=.slice A 0 c
 | d+1,w,v,l=>∃A c,v=.slice A l.length c∧(l.length≤9223372036854775807∧l.length≤c)∧∀(j:Nat) (a:Tr),l[j]?=some a→∃b o s x y,A=some ⟨b,o,s⟩∧b<w.heap.size∧TrCell w ((⟨b,o,s⟩:Addr).add (j*5)) a x y∧PsSome w y a.cs∧TsAt d w x a.ks
theorem TsAt.form {d:Nat} {w:World} {v:Value} {l:List Tr} (h:TsAt d w v l):∃A c,v=.slice A l.length c∧l.length≤9223372036854775807:=by
 cases d with
 | zero=>obtain⟨rfl,A,c,rfl⟩:=h;exact⟨A,c,rfl,by simp⟩
 | succ d=>obtain⟨A,c,rfl,hl,_⟩:=h;exact⟨A,c,rfl,hl.1⟩
theorem TsAt.cap {d:Nat} {w:World} {A:Option Addr} {n c:Nat} {l:List Tr} (h:TsAt d w (.slice A n c) l):l.length≤c:=by
 cases d with
 | zero=>obtain⟨rfl,_⟩:=h;simp
 | succ d=>obtain⟨A',c',hv,hl,_⟩:=h;cases hv;exact hl.2
theorem TsAt.below {d:Nat}:∀{w w':World} {B:Nat} {v:Value} {l:List Tr},TsAt d w v l→Below B w w'→w.heap.size≤B→TsAt d w' v l:=by
 induction d with
 | zero=>intro w w' B v l h _ _;exact h
 | succ d ih =>
  intro w w' B v l h hb hB;obtain⟨A,c,hv,hc,hx⟩:=h;refine⟨A,c,hv,hc,fun j a hj=>?_⟩;obtain⟨b,o,s,x,y,hA,hlt,hcell,hp,hk⟩:=hx j a hj
  exact⟨b,o,s,x,y,hA,C9 hlt hb.size,hcell.below hb (by rw[L7];show b<B;omega),hp.below hb hB,ih hk hb hB⟩
theorem TsAt.more {d:Nat}:∀{w:World} {v:Value} {l:List Tr},TsAt d w v l→TsAt (d+1) w v l:=by
 induction d with
 | zero =>
  intro w v l h;obtain⟨rfl,A,c,rfl⟩:=h
  exact⟨A,c,rfl,by simp,fun j a hj=>by simp at hj⟩
 | succ d ih =>
  intro w v l h;obtain⟨A,c,hv,hc,hx⟩:=h;refine⟨A,c,hv,hc,fun j a hj=>?_⟩;obtain⟨b,o,s,x,y,hA,hlt,hcell,hp,hk⟩:=hx j a hj;exact⟨b,o,s,x,y,hA,hlt,hcell,hp,ih hk⟩
theorem TsAt.mono {d e:Nat} {w:World} {v:Value} {l:List Tr} (h:TsAt d w v l) (hd:d≤e):TsAt e w v l:=by
 induction hd with
 | refl=>exact h
 | step _ ih=>exact ih.more
theorem TsAt.at_ {d:Nat} {w:World} {A:Option Addr} {c:Nat} {l:List Tr} {j:Nat} {a:Tr} (h:TsAt d w (.slice A l.length c) l) (hj:l[j]?=some a) :
  ∃e b o s x y,e<d∧A=some ⟨b,o,s⟩∧b<w.heap.size∧∀W,Below w w W→TrCell W ((⟨b,o,s⟩:Addr).add (j*5)) a x y∧PsSome W y a.cs∧TsAt e W x a.ks:=by
 cases d with
 | zero=>obtain⟨rfl,_⟩:=h;simp at hj
 | succ d =>
  obtain⟨A',c',hv,_,hx⟩:=h;cases hv;obtain⟨b,o,s,x,y,hA,hlt,hcell,hp,hk⟩:=hx j a hj
  exact⟨d,b,o,s,x,y,Nat.lt_succ_self d,hA,hlt,fun W hb=>⟨hcell.below hb (by rw[L7];exact hlt),hp.below hb (C3 _),hk.below hb (C3 _)⟩⟩
theorem A0a {w W0:World} {T:TypeId} {a:Tr} {u v:Value} (h:W0=w.alloc (Obj.cells (a.cells u v).toArray T)):Lies W0 w.heap.size T (a.cells u v)∧TrCell W0 ⟨w.heap.size,0,none⟩ a u v∧Below w w W0:=by
 have l:Lies W0 w.heap.size T (a.cells u v):=by rw[h];exact Lies.new _ _ _
 exact⟨l,l.tr,by rw[h];exact(Below.refl _ _).alloc (C3 _) _⟩
open Go.RowKit Go.Sort
theorem A3Y (d:Nat):∀(a:Tr) (u v:Value) (M:Int) (w:World),TsAt d w u a.ks→PsSome w v a.cs→1≤M→M≤1000000 →
  Calls Tryz.prog 37 #[.agg #[a.k,a.t,u,v,a.h],M] w
   fun e w'=>e=.returned (.int .i64 (min (Tr.size a:Int) M))∧Below w w w':=by
 induction d using Nat.strongRecOn with
 | ind d ih =>
 intro a u v M w hu hv hM1 hM2;obtain⟨W0,hW0⟩:∃W0,W0=w.alloc (Obj.cells #[a.k,a.t,u,v,a.h] 26):=⟨_,rfl⟩;obtain⟨l0,p0,hb0⟩:=A0a (a:=a) (u:=u) (v:=v) hW0;have HU:=J1 (hu.below hb0 (C3 _));obtain⟨D,hps⟩:=hv.below hb0 (C3 _);obtain⟨A,c,rfl,hl⟩:=hu.form;obtain⟨A',c',rfl,hl'⟩:=hps.form;have HW:=J1 hW0;have IH:=J1 ih;have HP:=J1 p0;have HL:=J1 l0.lt;have HPS:=J1 hps;have hsz:=Tr.size_at a;obtain⟨n,hn⟩:∃n,n=a.ks.length:=⟨_,rfl⟩;obtain⟨m,hm⟩:∃m,m=a.cs.length:=⟨_,rfl⟩;rw[←hn]at hl HU HP HW ⊢;rw[←hm]at hl' HPS HP HW ⊢;have HN:=J1 (J0 hn hm);have HSZ:=J1 hsz;clear hW0 ih hu hv hps l0 p0 hn hm hsz;go_enter Tryz.func37,Tryz.ntmps37;go_wp2_with fail;rw[←HW.out]
 go_loopw [5,6] (fun s i wr=>∃(q:Nat) (sv:Int),q≤m∧i=.int .i64 q∧s=.int .i64 sv∧1≤sv∧sv≤M∧Hid (sv=min (1+(Pr.sizes (a.cs.take q):Int)) M)∧Below W0 W0 wr) (fun _ i _=>m-(intOf i).toNat)
 case atStart=>exact⟨0,1,E3 _,rfl,rfl,by omega,by omega,J1 (by rw[F8,Pr.sizes];omega),Below.refl _ _⟩
 case round =>
  obtain⟨q,sv,hq,rfl,rfl,hs1,hs2,hsv,hb⟩:=hrel
  have k3:=(HP.out.below hb (show w.heap.size<W0.heap.size from HL.out)).c3
  have k2:=(HP.out.below hb (show w.heap.size<W0.heap.size from HL.out)).c2
  have done:¬(q<m∧sv<M)→Hid (sv=min (1+(Pr.sizes a.cs:Int)) M):=fun hnot=>J1 (by
   have h:=hsv.out;have hm:=HN.out.2
   by_cases hlt:q<m
   ·have hle:Pr.sizes (a.cs.take q)≤Pr.sizes a.cs:=Pr.sizes_take q a.cs;omega
   ·rw[C7 (by omega)]at h
    exact h)
  have DONE:=J1 done;clear done
  by_cases hin:q<m∧sv<M
  ·as_aux_lemma =>
   obtain⟨hlt,hsm⟩:=hin
   obtain⟨p,gp⟩:∃p,a.cs[q]?=some p:=⟨a.cs[q]'(by have:=HN.out;omega),A8 _⟩
   have hu:=HPS.out;rw[HN.out.2]at hu;obtain⟨e,b,o,s,v,he,rfl,_,hx⟩:=hu.at_ gp;obtain⟨hcell,hps⟩:=hx wr hb
   have cs:=A5i e p.f v p.ps (M-sv) wr hps (by omega) (by omega)
   have ht:a.cs.take (q+1)=a.cs.take q++[p]:=by rw[D7,gp];rfl
   have hpe:Pd.mk p.f p.ps=p:=by cases p;rfl
   rw[hpe]at cs;have hp1:=Pr.size_pos p
   have hS:Pr.sizes (a.cs.take (q+1))=Pr.sizes (a.cs.take q)+Pr.size p:=by rw[ht,Pr.sizes_snoc]
   obtain⟨x,hx1⟩:∃x,x=min (Pr.size p:Int) (M-sv):=⟨_,rfl⟩
   have hx2:1≤x:=by omega
   have hx3:x≤M-sv:=by omega
   have H3:Hid (sv+x=min (1+(Pr.sizes (a.cs.take (q+1)):Int)) M):=J1 (by have:=hsv.out;omega)
   rw[←hx1]at cs;obtain⟨q0,q1,q2,q3,q4,q5,q6,q7,q8,q9,q10,q11,q12,q13⟩:=hcell;clear gp hx hps ht hpe hu hp1 hS hx1;go_wp2_with fail;refine cs.mono ?_;rintro e w2 ⟨rfl,hb2⟩;have hb':=J5 hb hb2;clear cs q0 q1 q2 q3 q4 q5 q6 q7 q8 q9 q10 q11 q12 q13 k3 k2;go_wp2_with fail
   go_roundw
   case rel=>exact⟨q+1,sv+x,by omega,by go_num,rfl,by omega,by omega,H3,hb'⟩
   case measure=>simp[intOf];omega
  ·as_aux_lemma =>
   have hsv2:=DONE.out hin
   have hguard:¬((q:Int)<(m:Int))∨((q:Int)<(m:Int)∧¬(sv<M)):=by omega
   have hb1:=hb
   have H0:Hid (∃(q:Nat) (s2:Int),q=0∧s2=sv∧s2=min (1+(Pr.sizes a.cs:Int)+(Tr.sizes (a.ks.take q):Int)) M):=J1 ⟨0,sv,rfl,rfl,by rw[F8,Tr.sizes];have:=hsv2.out;omega⟩
   clear hin hsv DONE
   rcases hguard with g1 | ⟨g1,g2⟩
   all_goals
    go_wp2_with fail
    go_loopw [5,7] (fun s i wr=>∃(q:Nat) (sv:Int),q≤n∧i=.int .i64 q∧s=.int .i64 sv∧1≤sv∧sv≤M∧Hid (sv=min (1+(Pr.sizes a.cs:Int)+(Tr.sizes (a.ks.take q):Int)) M)∧Below W0 W0 wr) (fun _ i _=>n-(intOf i).toNat)
    case atStart=>exact⟨0,sv,E3 _,rfl,rfl,hs1,hs2,J1 (by obtain⟨_,_,rfl,rfl,h⟩:=H0.out;exact h),hb1⟩
    case round =>
     obtain⟨r,tv,hr,rfl,rfl,ht1,ht2,htv,hbr⟩:=hrel
     have k2:=(HP.out.below hbr (show w.heap.size<W0.heap.size from HL.out)).c2
     have done:¬(r<n∧tv<M)→Hid (tv=min (Tr.size a:Int) M):=fun hnot=>J1 (by
      have h:=htv.out;have hn:=HN.out.1;have hz:=HSZ.out
      by_cases hlt:r<n
      ·have hle:Tr.sizes (a.ks.take r)≤Tr.sizes a.ks:=Tr.sizes_take r a.ks;omega
      ·rw[C7 (by omega)]at h
       omega)
     have DONE:=J1 done;clear done
     by_cases hin:r<n∧tv<M
     ·obtain⟨hlt,hsm⟩:=hin
      obtain⟨b,gb⟩:∃b,a.ks[r]?=some b:=⟨a.ks[r]'(by have:=HN.out;omega),A8 _⟩
      have hu:=HU.out;rw[HN.out.1]at hu;obtain⟨e,bb,oo,ss,xx,yy,he,rfl,_,hx⟩:=hu.at_ gb;obtain⟨hcell,hps,hks⟩:=hx wr hbr
      have cs:=IH.out e he b xx yy (M-tv) wr hks hps (by omega) (by omega)
      have ht:a.ks.take (r+1)=a.ks.take r++[b]:=by rw[D7,gb];rfl
      have hp1:=Tr.size_pos b
      have hS:Tr.sizes (a.ks.take (r+1))=Tr.sizes (a.ks.take r)+Tr.size b:=by rw[ht,Tr.sizes_snoc]
      obtain⟨z,hz1⟩:∃z,z=min (Tr.size b:Int) (M-tv):=⟨_,rfl⟩
      have hz2:1≤z:=by omega
      have hz3:z≤M-tv:=by omega
      have H3:Hid (tv+z=min (1+(Pr.sizes a.cs:Int)+(Tr.sizes (a.ks.take (r+1)):Int)) M):=J1 (by have:=htv.out;omega)
      rw[←hz1]at cs;obtain⟨A2,c2,rfl,_⟩:=hks.form;obtain⟨D2,hps2⟩:=hps;obtain⟨A3,c3,rfl,_⟩:=hps2.form;obtain⟨q0,q1,q2,q3,q4⟩:=hcell;clear gb hx hps2 hks ht hu hp1 hS hz1;go_wp2_with fail;refine cs.mono ?_;rintro e w2 ⟨rfl,hb2⟩;have hb':=J5 hbr hb2;clear cs q0 q1 q2 q3 q4 k2;go_wp2_with fail
      go_roundw
      case rel=>exact⟨r+1,tv+z,by omega,by go_num,rfl,by omega,by omega,H3,hb'⟩
      case measure=>simp[intOf];omega
     ·have he:=DONE.out hin
      have hguard:¬((r:Int)<(n:Int))∨((r:Int)<(n:Int)∧¬(tv<M)):=by omega
      clear hin DONE htv
      rcases hguard with g3 | ⟨g3,g4⟩
      all_goals
       go_wp2_with fail;go_ret;exact⟨M1 he.out,J5 hb0 hbr⟩
theorem R3 (a:Addr):a.add 0=a:=by unfold Addr.add;simp
theorem A9R {x y:Nat} (hx:x<18446744073709551616) (hy:y<18446744073709551616):x ||| y<18446744073709551616:=Nat.or_lt_two_pow (n:=64) hx hy
namespace Tr
mutual
theorem seen_lt:∀a:Tr,seen a<18446744073709551616
 | .mk k t h cs ks=>by
  rw[seen]
  split
  ·exact St.ofN_lt _
  ·split
   ·exact A7X ks
   ·exact seens_lt ks
theorem A7X:∀l:List Tr,seen1 l<18446744073709551616
 | []=>by rw[seen1];decide
 | a::_=>by rw[seen1];exact seen_lt a
theorem seens_lt:∀l:List Tr,seens l<18446744073709551616
 | []=>by rw[seens];decide
 | a::r=>by rw[seens];exact A9R (seen_lt a) (seens_lt r)
end
theorem seens_one (l:List Tr):seens (l.take 1)=seen1 l:=by
 cases l with
 | nil=>rfl
 | cons a r=>rw[List.take_succ_cons,F8,seens,seens,seen1,Nat.or_zero]
end Tr
theorem A1B (d:Nat):∀(a:Tr) (u v:Value) (w:World),TsAt d w u a.ks →
  Calls Tryz.prog 16 #[.agg #[a.k,a.t,u,v,a.h]] w
   fun e w'=>e=.returned (.int .u64 (Tr.seen a:Nat))∧Below w w w':=by
 induction d using Nat.strongRecOn with
 | ind d ih =>
 intro a u v w hu;obtain⟨W0,hW0⟩:∃W0,W0=w.alloc (Obj.cells #[a.k,a.t,u,v,a.h] 26):=⟨_,rfl⟩;obtain⟨l0,p0,hb0⟩:=A0a (a:=a) (u:=u) (v:=v) hW0;have HU:=J1 (hu.below hb0 (C3 _));obtain⟨A,c,rfl,hl⟩:=hu.form;have HW:=J1 hW0;have IH:=J1 ih;have HP:=J1 p0;have HL:=J1 l0.lt;have hse:=Tr.seen_at a;obtain⟨n,hn⟩:∃n,n=a.ks.length:=⟨_,rfl⟩;rw[←hn]at hl HU HP HW ⊢;have HN:=J1 hn;have HSE:=J1 hse;obtain⟨q0,q1,q2,q3,q4⟩:=p0;rw[←hn]at q2;obtain⟨kd,hkd⟩:∃kd,kd=a.k:=⟨_,rfl⟩;obtain⟨tb,htb⟩:∃tb,tb=a.t:=⟨_,rfl⟩;rw[←hkd]at q0 HW ⊢;rw[←htb]at q1 HW ⊢;have HK:=J1 (J0 hkd htb);clear hW0 ih hu l0 hn hse hkd htb
 by_cases hk:kd=0
 ·subst hk
  have hres:=J1 (show St.ofN [tb]=Tr.seen a by rw[HSE.out,if_pos HK.out.1.symm,HK.out.2])
  have cs:=A6p _ [tb] _ (Sl.new W0 3 [tb]) (by simp)
  rw[hres.out]at cs;have hb1:=J5 hb0 (J6 W0 (Obj.cells #[tb] 3));clear q2 q3 q4;go_enter Tryz.func16,Tryz.ntmps16
  go_upto_region 1 with(fail)
  rw[←HW.out];go_wp2_with fail;refine cs.mono ?_;rintro e w1 ⟨rfl,rfl⟩;clear cs;go_wp2_with fail;go_ret;exact⟨rfl,hb1⟩
 ·have hk2:(kd == 0)=false:=by simpa using hk
  obtain⟨L,hL⟩:∃L:List Tr,L=if kd=3∨kd=4 then a.ks.take 1 else a.ks:=⟨_,rfl⟩;have HLL:=J1 hL;clear hL;go_enter Tryz.func16,Tryz.ntmps16
  go_upto_region 1 with(fail)
  rw[←HW.out];go_wp2_with fail;clear q0 q1 q2 q3 q4
  go_loopw [3,4] (fun s i wr=>∃(q sv:Nat),q≤n∧i=.int .i64 q∧s=.int .u64 sv∧Hid (sv=Tr.seens (L.take q))∧Below W0 W0 wr) (fun _ i _=>n-(intOf i).toNat)
  case atStart=>exact⟨0,0,E3 _,rfl,rfl,J1 (by rw[F8,Tr.seens]),Below.refl _ _⟩
  case round =>
   obtain⟨q,sv,hq,rfl,rfl,hsv,hb⟩:=hrel
   have pr:=HP.out.below hb (show w.heap.size<W0.heap.size from HL.out)
   have k2:=pr.c2;have k0:=pr.c0;rw[←HK.out.1]at k0;clear pr
   by_cases hlt:q<n
   ·obtain⟨b,gb⟩:∃b,a.ks[q]?=some b:=⟨a.ks[q]'(by have:=HN.out;omega),A8 _⟩
    by_cases hinc:q=0∨(kd≠3∧kd≠4)
    ·have hu:=HU.out;rw[HN.out]at hu;obtain⟨e,bb,oo,ss,xx,yy,he,rfl,_,hx⟩:=hu.at_ gb;obtain⟨hcell,hps,hks⟩:=hx wr hb;have cs:=IH.out e he b xx yy wr hks
     have ht:L.take (q+1)=L.take q++[b]:=by
      rw[HLL.out]
      split
      ·next h34 =>
       obtain rfl:q=0:=hinc.resolve_right fun h=>by rcases h34 with h | h <;> omega
       rw[List.take_take]
       cases hks':a.ks with
       | nil=>rw[hks']at gb;simp at gb
       | cons z r=>rw[hks']at gb;simp at gb;subst gb;rfl
      ·rw[D7,gb];rfl
     have hsl:sv<18446744073709551616:=by rw[hsv.out];exact Tr.seens_lt _
     have H2:=J1 (u64_or_nat sv (Tr.seen b) hsl (Tr.seen_lt b))
     have H3:=J1 (show sv ||| Tr.seen b=Tr.seens (L.take (q+1)) by rw[ht,Tr.seens_snoc,hsv.out])
     obtain⟨A2,c2,rfl,_⟩:=hks.form;obtain⟨D2,hps2⟩:=hps;obtain⟨A3,c3,rfl,_⟩:=hps2.form;obtain⟨q0,q1,q2,q3,q4⟩:=hcell;clear gb hx hps2 hks ht hsl hu
     rcases Nat.eq_zero_or_pos q with h0 | h0
     ·subst h0;simp only[Nat.zero_mul,R3]at q0 q1 q2 q3 q4;clear hinc;go_wp2_with fail;refine cs.mono ?_;rintro e w2 ⟨rfl,hb2⟩;have hb':=J5 hb hb2;clear cs q0 q1 q2 q3 q4 k2 k0;go_wp2_with fail
      go_roundw
      case rel=>exact⟨0+1,_,by omega,by go_num,by rw[H2.out],H3,hb'⟩
      case measure=>simp[intOf];omega
     ·have h1:¬((q:Int)=0):=by omega
      have h3:kd≠3:=(hinc.resolve_left (by omega)).1
      have h4:kd≠4:=(hinc.resolve_left (by omega)).2
      have h1':((q:Int) == 0)=false:=by simpa using h1
      have h3':(kd != 3)=true:=by simpa using h3
      have h4':(kd != 4)=true:=by simpa using h4
      clear h1 h3 h4;clear hinc;go_wp2_with fail;refine cs.mono ?_;rintro e w2 ⟨rfl,hb2⟩;have hb':=J5 hb hb2;clear cs q0 q1 q2 q3 q4 k2 k0;go_wp2_with fail
      go_roundw
      case rel=>exact⟨q+1,_,by omega,by go_num,by rw[H2.out],H3,hb'⟩
      case measure=>simp[intOf];omega
    ·have h1:¬((q:Int)=0):=by omega
     have h34:kd=3∨kd=4:=by omega
     have H3:=J1 (show sv=Tr.seens (L.take (q+1)) by
      rw[hsv.out,HLL.out,if_pos h34,List.take_take,List.take_take,show min q 1=1 by omega,show min (q+1) 1=1 by omega])
     clear gb hinc
     rcases h34 with h3 | h3
     all_goals
      have HK3:=J1 h3;rw[h3]at k0;clear h3;go_wp2_with fail
      go_roundw
      case rel=>exact⟨q+1,sv,by omega,by go_num,rfl,H3,hb⟩
      case measure=>simp[intOf];omega
   ·have he:Hid (sv=Tr.seen a):=J1 (by
     rw[hsv.out,HSE.out,if_neg (by rw[←HK.out.1];exact hk),HLL.out,←HK.out.1]
     have hn:=HN.out
     by_cases h34:kd=3∨kd=4
     ·rw[if_pos h34,if_pos h34,C7 (by rw[E4];omega),Tr.seens_one]
     ·rw[if_neg h34,if_neg h34,C7 (by omega)])
    go_wp2_with fail;go_ret
    exact⟨by rw[he.out];rfl,J5 hb0 hb⟩
abbrev TrV:=Tr × Value × Value
def trCells (l:List TrV):List Value:=l.flatMap fun x=>x.1.cells x.2.1 x.2.2
theorem A0t (l m:List TrV):trCells (l++m)=trCells l++trCells m:=by simp[trCells]
def TrHang (w:World) (x:TrV):Prop:=(∃d,TsAt d w x.2.1 x.1.ks)∧PsSome w x.2.2 x.1.cs
theorem A0s {w:World} {l:List TrV} (h:∀x∈l,TrHang w x):∀u∈trCells l,u.oneCell'=true:=by
 intro u hu;simp only[trCells,List.mem_flatMap]at hu;obtain⟨x,hx,hu⟩:=hu;obtain⟨⟨d,h1⟩,D,h2⟩:=h x hx;obtain⟨A,c,h1,_⟩:=h1.form;obtain⟨B,c',h2,_⟩:=h2.form;rw[h1,h2]at hu
 simp[Tr.cells]at hu
 rcases hu with rfl | rfl | rfl | rfl | rfl <;> rfl
theorem Tr.alls_take {l:List Tr} {q:Nat} {b:Tr} (h:l[q]?=some b):Tr.alls (l.take (q+1))=Tr.alls (l.take q)++Tr.all b:=by
 rw[D7,h];exact Tr.alls_snoc _ _
theorem Tr.alls_len (l:List Tr):(Tr.alls l).length≤Tr.sizes l:=by
 induction l with
 | nil=>rw[Tr.alls,Tr.sizes];simp
 | cons b r ih=>rw[Tr.alls,Tr.sizes,C6];have:=Tr.all_length_le b;omega
def OwnTrs (w0 w:World) (l:List Tr) (e:Ending) (w':World):Prop :=
 ∃v L,e=.returned v∧L.map (·.1)=l∧(∀x∈L,TrHang w0 x)∧w'.ownsRow w.heap.size 26 5 v L.length (trCells L)∧Below w w w'
theorem Tryz.infoTree:(Tryz.prog.info? 26).map (fun i=>(i.zero,i.size,i.bytes))=some (some (.agg #[z9,z9,(),(),false]),5,72):=by kernel_rfl
theorem A18 (w0:World) (d:Nat):∀(a:Tr) (u v:Value) (w:World),Below w0 w0 w→TsAt d w0 u a.ks→PsSome w0 v a.cs→Tr.size a≤1000 →
  Calls Tryz.prog 42 #[.agg #[a.k,a.t,u,v,a.h]] w (OwnTrs w0 w (Tr.all a)):=by
 induction d using Nat.strongRecOn with
 | ind d ih =>
 intro a u v w hw hu hv hsz;obtain⟨i0,hi,hz0,hz1,hz2⟩:=info_parts Tryz.infoTree;obtain⟨W0,hW0⟩:∃W0,W0=w.alloc (Obj.cells #[a.k,a.t,u,v,a.h] 26):=⟨_,rfl⟩;obtain⟨l0,p0,hb0⟩:=A0a (a:=a) (u:=u) (v:=v) hW0;have HU:=J1 hu
 have HHG:=J1 (show TrHang w0 (a,u,v) from⟨⟨d,hu⟩,hv⟩)
 obtain⟨A,c,rfl,hl⟩:=hu.form;obtain⟨A',c',rfl,hl'⟩:=hv.elim fun D h=>h.form;have hn1:=Tr.sizes_length a.ks;have hsa:=Tr.size_at a
 have hn2:a.ks.length≤1000:=by omega
 have HS:=J1 (show Tr.sizes a.ks≤999 by omega)
 have HW:=J1 hW0;have IH:=J1 ih;have HP:=J1 p0;have HL:=J1 l0.lt;have HWW:=J1 hw;have HALL:=J1 (Tr.all_at a);obtain⟨n,hn⟩:∃n,n=a.ks.length:=⟨_,rfl⟩;rw[←hn]at hl HU HHG HP HW hn2 ⊢;have HN:=J1 hn;have how:=A1G W0 26 5 W0.heap.size (C3 _) W0.heap.size rfl;have hb:Below W0 W0 (W0.alloc (Obj.cells #[] 26)):=J6 _ _;have HB0:=J1 hb0
 have HSZ:=J1 (show W0.heap.size=w.heap.size+1 by rw[hW0,J2])
 have HHO:=J1 (show(W0.alloc (Obj.cells #[] 26)).ownsRow W0.heap.size 26 5 (.slice (some ⟨W0.heap.size,0,none⟩) 0 0) 0 (trCells []) from how)
 clear hW0 ih hu hv l0 p0 hn hsz hsa hn1 hb0 how hw hl';go_enter Tryz.func42,Tryz.ntmps42
 go_upto_region 1 with(fail)
 rw[←HW.out];go_wp2_with fail
 go_loopw [3,4] (fun s i wr=>∃(q:Nat) (L:List TrV),q≤n∧i=.int .i64 q∧L.map (·.1)=Tr.alls (a.ks.take q)∧Hid (∀x∈L,TrHang w0 x)∧wr.ownsRow W0.heap.size 26 5 s L.length (trCells L)∧Below W0 W0 wr) (fun _ i _=>n-(intOf i).toNat)
 case atStart=>exact⟨0,[],E3 _,rfl,by rw[F8,Tr.alls];rfl,J1 (fun x hx=>by simp at hx),HHO.out,hb⟩
 case round =>
  obtain⟨q,L,hq,rfl,hLm,hLh,hown,hb⟩:=hrel
  have hLl:L.length≤999:=by
   have h1:=congrArg List.length hLm;rw[E0]at h1;have h2:=Tr.alls_len (a.ks.take q);have h3:=Tr.sizes_take q a.ks;have h4:=HS.out;omega
  have pr:=HP.out.below hb (show w.heap.size<W0.heap.size from HL.out)
  have hbw:=J1 (J5 HB0.out hb)
  by_cases hlt:q<n
  ·obtain⟨b,gb⟩:∃b,a.ks[q]?=some b:=⟨a.ks[q]'(by have:=HN.out;omega),A8 _⟩
   have hu:=HU.out;rw[HN.out]at hu;obtain⟨e,bb,oo,ss,xx,yy,he,rfl,_,hx⟩:=hu.at_ gb;have hwr:Below w0 w0 wr:=J5 HWW.out hbw.out;obtain⟨hcell,_,_⟩:=hx wr hwr;obtain⟨_,hps,hks⟩:=hx w0 (Below.refl _ _);have hbs:=Tr.sizes_at gb
   have cs:=IH.out e he b xx yy wr hwr hks hps (by have:=HS.out;omega)
   have HT:=J1 (Tr.alls_take gb);have k2:=pr.c2;obtain⟨A2,c2,rfl,_⟩:=hks.form;obtain⟨D2,hps2⟩:=hps;obtain⟨A3,c3,rfl,_⟩:=hps2.form;have hal:=Tr.all_length_le b
   have hbs':Tr.size b≤999:=by have:=HS.out;omega
   obtain⟨q0,q1,q2,q3,q4⟩:=hcell;clear gb hx hps2 hks hu hwr pr hbs;go_wp2_with fail;refine cs.mono ?_;rintro e w2 ⟨v2,L2,rfl,hm2,hh2,hown2,hb2⟩
   have hL2:L2.length≤999:=by
    have h1:=congrArg List.length hm2;rw[E0]at h1;omega
   have hb':=J5 hb hb2;have hown3:=A0m hown hb2;have hcame:=CameN.own hown2;have HH2:=J1 hh2;have HM2:=J1 hm2;have HLM:=J1 hLm;clear cs q0 q1 q2 q3 q4 k2 hb2 hb hown hown2 hh2 hm2 hLm hal
   go_wp2_with (first
    | (at_builtin;refine M5 _ rfl _ _ 23 rfl W0.heap.size 26 i0 _ 5 72 Tryz.underlying23 hi hz0 hz1 hz2 rfl (by decide) _ _ _ rfl hown3 _ _ _ rfl hcame (A0s HH2.out) ?l1 ?l2 ?l3 ?_))
   case l1=>unfold maxLen;omega
   case l2=>omega
   case l3=>exact hb'.size
   intro v1 w3 hown4 hgrow;have hb3:Below W0 W0 w3:=hb'.grown hgrow hb'.size (fun k hk=>(hown3.lt k hk).1)
   have hown5:w3.ownsRow W0.heap.size 26 5 v1 (L++L2).length (trCells (L++L2)):=by rw[C6,A0t];exact hown4
   clear hown4 hgrow hown3 hcame hb';go_wp2_with fail
   go_roundw
   case rel=>exact⟨q+1,L++L2,by omega,by go_num,by rw[List.map_append,HLM.out,HM2.out,HT.out],J1 (fun x hx=>(G3.1 hx).elim (hLh.out x) (HH2.out x)),hown5,hb3⟩
   case measure=>simp[intOf];omega
  ·have hm:(L++[((a,Value.slice A n c,Value.slice A' a.cs.length c'):TrV)]).map (·.1)=Tr.all a:=by
    rw[List.map_append,hLm,C7 (by have:=HN.out;omega),HALL.out];rfl
   have HM:=J1 hm
   have hh:∀x∈L++[((a,Value.slice A n c,Value.slice A' a.cs.length c'):TrV)],TrHang w0 x:=fun x hx=>(G3.1 hx).elim (hLh.out x) fun h=>by rw[G4.1 h];exact HHG.out
   have HH:=J1 hh
   have hcm:=J1 (show CameN (wr.alloc (Obj.cells #[a.k,a.t,.slice A n c,.slice A' a.cs.length c',a.h] 26)) 5 (.slice (some ⟨wr.heap.size,0,none⟩) 1 1) 1 (trCells [((a,Value.slice A n c,Value.slice A' a.cs.length c'):TrV)]) from CameN.new wr 26 5 1 _ _ rfl rfl)
   have hone:=J1 (A0s (l:=[((a,Value.slice A n c,Value.slice A' a.cs.length c'):TrV)]) (w:=w0) fun x hx=>by rw[G4.1 hx];exact HHG.out)
   have h63:=J1 (show L.length+1≤maxLen by unfold maxLen;omega)
   have hby:=J1 (show(L.length+1)*72≤140737488355328 by omega)
   have hbs:=J1 (show W0.heap.size≤(wr.alloc (Obj.cells #[a.k,a.t,.slice A n c,.slice A' a.cs.length c',a.h] 26)).heap.size by have:=hb.size;rw[J2];omega)
   have hoa:=J1 (hown.alloc (Obj.cells #[a.k,a.t,.slice A n c,.slice A' a.cs.length c',a.h] 26));obtain⟨q0,q1,q2,q3,q4⟩:=pr;clear hm hh hLm
   go_wp2_with (first
    | (at_builtin;refine M5 _ rfl _ _ 23 rfl W0.heap.size 26 i0 _ 5 72 Tryz.underlying23 hi hz0 hz1 hz2 rfl (by decide) _ L.length _ rfl hoa.out _ 1 (trCells [((a,Value.slice A n c,Value.slice A' a.cs.length c'):TrV)]) rfl hcm.out hone.out h63.out hby.out hbs.out ?_))
   intro v1 w1 hown1 hgrow;have hb1:Below W0 W0 w1:=(hb.alloc hb.size _).grown hgrow hbs.out (fun k hk=>(hown.lt k hk).1)
   have HO:=J1 (show w1.ownsRow W0.heap.size 26 5 v1 (L++[((a,Value.slice A n c,Value.slice A' a.cs.length c'):TrV)]).length (trCells (L++[((a,Value.slice A n c,Value.slice A' a.cs.length c'):TrV)])) by rw[C6,A0t];exact hown1)
   clear hown1 hgrow q0 q1 q2 q3 q4 hown;go_wp2_with fail;go_ret;exact⟨_,_,rfl,HM.out,HH.out,HO.out.mono HB0.out.size,J5 HB0.out hb1⟩
theorem S6 {L:List TrV} {j i:Nat} {x:TrV} (h:L[j]?=some x) (hi:i<5):(trCells L)[j*5+i]?=(x.1.cells x.2.1 x.2.2)[i]?:=by
 induction L generalizing j with
 | nil=>simp at h
 | cons y r ih =>
  have e:trCells (y::r)=y.1.cells y.2.1 y.2.2++trCells r:=by simp[trCells]
  have e5:(y.1.cells y.2.1 y.2.2).length=5:=rfl;rw[e]
  cases j with
  | zero =>
   simp at h
   subst h
   rw[F2 (by omega),Nat.zero_mul,G6]
  | succ j =>
   rw[E8 (by omega),e5,show(j+1)*5+i-5=j*5+i by omega]
   exact ih (by simpa using h)
theorem S5 (g j:Nat):(⟨g,0,none⟩:Addr).add j=⟨g,j,none⟩:=by
 unfold Addr.add
 split
 ·next h=>subst h;rfl
 ·simp
theorem A2e {w:World} {base:Nat} {T:TypeId} {v:Value} {L:List TrV} (h:w.ownsRow base T 5 v L.length (trCells L)) :
  ∃A c,v=.slice A L.length c∧∀(j:Nat) (x:TrV),L[j]?=some x→∃g,A=some ⟨g,0,none⟩∧base≤g∧g<w.heap.size∧TrCell w ((⟨g,0,none⟩:Addr).add (j*5)) x.1 x.2.1 x.2.2:=by
 rcases h.2 with⟨hv,hn⟩ | ⟨g,cap,cur,hv,_⟩
 ·exact⟨none,0,by rw[hn];exact hv,fun j x hx=>by rw[D6 hn]at hx;simp at hx⟩
 ·subst hv;refine⟨_,cap,rfl,fun j x hx=>⟨g,rfl,(h.lt g rfl).1,(h.lt g rfl).2,?_⟩⟩
  have k:∀i u,i<5→(x.1.cells x.2.1 x.2.2)[i]?=some u→w.cell? ⟨g,j*5+i,none⟩=some u:=fun i u hi hu=>by
   have:=h.cells (g:=g) rfl (j*5+i) u (by rw[S6 hx hi,hu])
   rwa[S5]at this
  rw[S5]
  exact⟨k 0 _ (by omega) rfl,k 1 _ (by omega) rfl,k 2 _ (by omega) rfl,k 3 _ (by omega) rfl,k 4 _ (by omega) rfl⟩
theorem A6M {w:World} {b b' n n' s s':Nat} {e e':TypeId} {v v':Value} {xs xs':List Value} (h:w.ownsRow b e s v n xs) (h':w.ownsRow b' e' s' v' n' xs') (he:e≠e'):v.ownBlock=none∨v.ownBlock≠v'.ownBlock:=by
 rcases h.2 with⟨rfl,_⟩ | ⟨g,cap,cur,rfl,_,hg,_⟩
 ·exact .inl rfl
 ·refine .inr fun hh=>?_
  rcases h'.2 with⟨rfl,_⟩ | ⟨g',cap',cur',rfl,_,hg',_⟩
  ·cases hh
  ·have h4:=F0 hh
   simp at h4
   subst h4;rw[hg]at hg';have h5:=F0 hg'
   injection h5 with _ h6 _
   exact he h6
def leafTs (l:List Tr):List Int:=(l.filter fun x=>x.k == 0).map Tr.t
theorem A0R (i:Int) (w:World) :
  Calls Tryz.prog 22 #[i] w fun e w'=>e=.returned (.agg #[z9,i,(),(),false])∧Below w w w':=by
 go_enter Tryz.func22,Tryz.ntmps22
 go_wp2
 exact bodyPost_ret (v:=.agg #[z9,i,(),(),false]) (by simp[results,Tryz.results22,go_sem]) rfl ⟨rfl,J6 _ _⟩
theorem A59 (W:World) (G:Nat) (hG:W.heap.size=G) (T:TypeId) (x y:TrV) :
  TrCell (W.alloc (Obj.cells #[x.1.k,x.1.t,x.2.1,x.2.2,x.1.h,y.1.k,y.1.t,y.2.1,y.2.2,y.1.h] T)) ⟨G,0,none⟩ x.1 x.2.1 x.2.2 ∧
  TrCell (W.alloc (Obj.cells #[x.1.k,x.1.t,x.2.1,x.2.2,x.1.h,y.1.k,y.1.t,y.2.1,y.2.2,y.1.h] T)) ⟨G,5,none⟩ y.1 y.2.1 y.2.2:=by
 subst hG;have l:=Lies.new W T [x.1.k,x.1.t,x.2.1,x.2.2,x.1.h,y.1.k,y.1.t,y.2.1,y.2.2,y.1.h];exact⟨⟨l.c 0 rfl,l.c 1 rfl,l.c 2 rfl,l.c 3 rfl,l.c 4 rfl⟩,⟨l.c 5 rfl,l.c 6 rfl,l.c 7 rfl,l.c 8 rfl,l.c 9 rfl⟩⟩
def TwoTrs (w:World) (k:Int) (x y:TrV) (vc:Value) (e:Ending) (w':World):Prop :=
 ∃g,e=.returned (.agg #[k,z9,.slice (some ⟨g,0,none⟩) 2 2,vc,false])∧w.heap.size≤g∧g<w'.heap.size∧TrCell w' ⟨g,0,none⟩ x.1 x.2.1 x.2.2∧TrCell w' ⟨g,5,none⟩ y.1 y.2.1 y.2.2∧Below w w w'
theorem A4L (k:Int) (x y:TrV) (A:Option Addr) (n c:Nat) (w:World) :
  Calls Tryz.prog 21 #[k,.agg #[x.1.k,x.1.t,x.2.1,x.2.2,x.1.h],.agg #[y.1.k,y.1.t,y.2.1,y.2.2,y.1.h],.slice A n c] w (TwoTrs w k x y (.slice A n c)):=by
 go_enter Tryz.func21,Tryz.ntmps21
 go_wp2
 refine bodyPost_ret (v:=.agg #[k,z9,.slice (some ⟨w.heap.size+1+1+1,0,none⟩) 2 2,.slice A n c,false]) (by simp[results,Tryz.results21,go_sem]) rfl ⟨w.heap.size+1+1+1,rfl,by omega,by simp,?_,?_,?_⟩
 ·exact(A59 _ _ (by simp) _ x y).1
 ·exact(A59 _ _ (by simp) _ x y).2
 ·exact((((Below.refl _ _).alloc (C3 _) _).alloc (by simp) _).alloc (by simp;omega) _).alloc (by simp;omega) _
abbrev A9E:Pd:=.mk ⟨2,0,1,⟨1,0,0,false,0⟩,⟨1,1,0,false,0⟩⟩ []
abbrev leafTr (i:Int):Tr:=.mk 0 i false [] []
abbrev twoTr (k:Int):Tr:=.mk k 0 false [A9E] [leafTr 0,leafTr 1]
theorem Z9q (d:Nat):∀(a:Tr) (u v:Value) (w:World),TsAt d w u a.ks→PsSome w v a.cs →
  Calls Tryz.prog 26 #[.agg #[a.k,a.t,u,v,a.h]] w fun e w'=>e=.returned (.int .u64 (Tr.seen a:Nat))∧Below w w w':=by
 induction d using Nat.strongRecOn with
 | ind d ih =>
 intro a u v w hu hv;obtain⟨W0,hW0⟩:∃W0,W0=w.alloc (Obj.cells #[a.k,a.t,u,v,a.h] 26):=⟨_,rfl⟩;obtain⟨l0,p0,hb0⟩:=A0a (a:=a) (u:=u) (v:=v) hW0;obtain⟨A,c,rfl,hl⟩:=hu.form;obtain⟨A',c',rfl,hl'⟩:=hv.elim fun D h=>h.form;have hcap:=hu.cap;have HU:=J1 (hu.below hb0 (C3 _));have HSE:=J1 (Tr.seen_at a);have IH:=J1 ih;obtain⟨q0,q1,q2,q3,q4⟩:=p0;obtain⟨n,hn⟩:∃n,n=a.ks.length:=⟨_,rfl⟩;rw[←hn]at hl HU q2 hcap hW0 ⊢;have HN:=J1 hn;have HW:=J1 hW0;obtain⟨kd,hkd⟩:∃kd,kd=a.k:=⟨_,rfl⟩;rw[←hkd]at q0 HW ⊢;have HK:=J1 hkd;clear hW0 ih hu hv l0 hn hkd hl'
 by_cases hk:kd=0
 ·subst hk
  have cs:=A2A _ [a.t] _ (Sl.new W0 3 [a.t]) (by simp)
  have hb1:=J5 hb0 (J6 W0 (Obj.cells #[a.t] 3))
  have HE:=J1 (show St.ofN [a.t]=Tr.seen a by rw[HSE.out,if_pos HK.out.symm])
  clear q3 q4;go_enter Tryz.func26,Tryz.ntmps26
  go_upto_region 1 with(fail)
  rw[←HW.out];go_wp2_with fail;refine cs.mono ?_;rintro e w1 ⟨rfl,rfl⟩;clear cs;go_wp2_with fail;go_ret
  exact⟨by rw[HE.out];rfl,hb1⟩
 ·have hk0:(kd == 0)=false:=by simpa using hk
  obtain⟨L,hL⟩:∃L:List Tr,L=if kd=3∨kd=4 then a.ks.take 1 else a.ks:=⟨_,rfl⟩;obtain⟨m,hm⟩:∃m,m=L.length:=⟨_,rfl⟩
  have hmn:m≤n:=by
   rw[hm,hL,HN.out]
   split
   ·rw[E4];omega
   ·exact C3 _
  have HLA:=J1 (show ∀(q:Nat) (b:Tr),L[q]?=some b→a.ks[q]?=some b from fun q b h=>by
   rw[hL]at h
   split at h
   ·rw[List.getElem?_take]at h
    split at h
    ·exact h
    ·cases h
   ·exact h)
  have HEND:=J1 (show Tr.seens L=Tr.seen a by
   rw[HSE.out,if_neg (by rw[←HK.out];exact hk),hL,←HK.out]
   by_cases h34:kd=3∨kd=4
   ·rw[if_pos h34,if_pos h34,Tr.seens_one]
   ·rw[if_neg h34,if_neg h34])
  have HM:=J1 hm
  by_cases h34:kd=3∨kd=4
  ·have hm1:m=min n 1:=by
    rw[hm,hL,if_pos h34,E4,HN.out];omega
   have HM1:=J1 hm1;clear hL hm hm1
   by_cases hn1:n≤1
   ·obtain rfl:m=n:=by have:=HM1.out;omega
    go_enter Tryz.func26,Tryz.ntmps26
    go_upto_region 1 with(fail)
    rw[←HW.out]
    have hn2:¬((1:Int)<(m:Int)):=by omega
    have hn3:(m:Int)≤1:=by omega
    rcases h34 with h3 | h3
    all_goals subst h3
    all_goals clear hk
    all_goals go_wp2_with fail
    all_goals clear hn2 hn3
    all_goals(
     go_loopw [4,27] (fun s i wr=>∃(q sv:Nat),q≤m∧i=.int .i64 q∧s=.int .u64 sv∧Hid (sv=Tr.seens (L.take q))∧Below W0 W0 wr) (fun _ i _=>m-(intOf i).toNat)
     case atStart=>exact⟨0,0,E3 _,rfl,rfl,J1 (by rw[F8,Tr.seens]),Below.refl _ _⟩
     case round =>
      obtain⟨q,sv,hq,rfl,rfl,hsv,hb⟩:=hrel
      by_cases hlt:q<m
      ·obtain⟨b,gL⟩:∃b,L[q]?=some b:=⟨L[q]'(by have:=HM.out;omega),A8 _⟩
       have gb:=HLA.out q b gL;have hu:=HU.out;rw[HN.out]at hu;obtain⟨e,bb,oo,ss,xx,yy,he,rfl,_,hx⟩:=hu.at_ gb;obtain⟨hcell,hps,hks⟩:=hx wr hb;obtain⟨A2,c2,rfl,_⟩:=hks.form;obtain⟨D2,hps2⟩:=hps;obtain⟨A3,c3,rfl,_⟩:=hps2.form;have hba:=J5 hb (J6 wr (Obj.cells #[b.k,b.t,.slice A2 b.ks.length c2,.slice A3 b.cs.length c3,b.h] 26));obtain⟨_,hps3,hks3⟩:=hx _ hba;have cs:=IH.out e he b _ _ _ hks3 hps3;have hqn:q<m:=C9 hlt hmn
       have ht:L.take (q+1)=L.take q++[b]:=by rw[D7,gL];rfl
       have hsl:sv<18446744073709551616:=by rw[hsv.out];exact Tr.seens_lt _
       have H2:=J1 (u64_or_nat sv (Tr.seen b) hsl (Tr.seen_lt b))
       have H3:=J1 (show sv ||| Tr.seen b=Tr.seens (L.take (q+1)) by rw[ht,Tr.seens_snoc,hsv.out])
       have HBA:=J1 hba;obtain⟨x0,x1,x2,x3,x4⟩:=hcell
       have hlt1:(q:Int)<(m:Int):=by omega
       clear gL gb hx hps2 hks hps3 hks3 ht hsl hu hb hba he q0 q1 q2 q3 q4;go_wp2_with fail;refine cs.mono ?_;rintro e w2 ⟨rfl,hb2⟩;have hb':=J5 HBA.out hb2;clear cs x0 x1 x2 x3 x4 hb2;go_wp2_with fail
       go_roundw
       case rel=>exact⟨q+1,_,by omega,by go_num,by rw[H2.out],H3,hb'⟩
       case measure=>simp[intOf];omega
      ·have hlt1:¬((q:Int)<(m:Int)):=by omega
       have he:Hid (sv=Tr.seen a):=J1 (by
        rw[hsv.out,C7 (by have:=HM.out;omega)]
        exact HEND.out)
       go_wp2_with fail;go_ret
       exact⟨by rw[he.out];rfl,J5 hb0 hb⟩)
   ·obtain rfl:m=1:=by have:=HM1.out;omega
    go_enter Tryz.func26,Tryz.ntmps26
    go_upto_region 1 with(fail)
    rw[←HW.out]
    have hn2:(1:Int)<(n:Int):=by omega
    have hn3:¬(n:Int)≤1:=by omega
    have hn4:1≤c:=by omega
    rcases h34 with h3 | h3
    all_goals subst h3
    all_goals clear hk
    all_goals go_wp2_with fail
    all_goals clear hn2 hn3
    all_goals(
     go_loopw [4,27] (fun s i wr=>∃(q sv:Nat),q≤1∧i=.int .i64 q∧s=.int .u64 sv∧Hid (sv=Tr.seens (L.take q))∧Below W0 W0 wr) (fun _ i _=>1-(intOf i).toNat)
     case atStart=>exact⟨0,0,E3 _,rfl,rfl,J1 (by rw[F8,Tr.seens]),Below.refl _ _⟩
     case round =>
      obtain⟨q,sv,hq,rfl,rfl,hsv,hb⟩:=hrel
      by_cases hlt:q<1
      ·obtain⟨b,gL⟩:∃b,L[q]?=some b:=⟨L[q]'(by have:=HM.out;omega),A8 _⟩
       have gb:=HLA.out q b gL;have hu:=HU.out;rw[HN.out]at hu;obtain⟨e,bb,oo,ss,xx,yy,he,rfl,_,hx⟩:=hu.at_ gb;obtain⟨hcell,hps,hks⟩:=hx wr hb;obtain⟨A2,c2,rfl,_⟩:=hks.form;obtain⟨D2,hps2⟩:=hps;obtain⟨A3,c3,rfl,_⟩:=hps2.form;have hba:=J5 hb (J6 wr (Obj.cells #[b.k,b.t,.slice A2 b.ks.length c2,.slice A3 b.cs.length c3,b.h] 26));obtain⟨_,hps3,hks3⟩:=hx _ hba;have cs:=IH.out e he b _ _ _ hks3 hps3;have hqn:q<n:=C9 hlt hmn
       have ht:L.take (q+1)=L.take q++[b]:=by rw[D7,gL];rfl
       have hsl:sv<18446744073709551616:=by rw[hsv.out];exact Tr.seens_lt _
       have H2:=J1 (u64_or_nat sv (Tr.seen b) hsl (Tr.seen_lt b))
       have H3:=J1 (show sv ||| Tr.seen b=Tr.seens (L.take (q+1)) by rw[ht,Tr.seens_snoc,hsv.out])
       have HBA:=J1 hba;obtain⟨x0,x1,x2,x3,x4⟩:=hcell
       have hlt1:(q:Int)<1:=by omega
       clear gL gb hx hps2 hks hps3 hks3 ht hsl hu hb hba he q0 q1 q2 q3 q4;go_wp2_with fail;refine cs.mono ?_;rintro e w2 ⟨rfl,hb2⟩;have hb':=J5 HBA.out hb2;clear cs x0 x1 x2 x3 x4 hb2;go_wp2_with fail
       go_roundw
       case rel=>exact⟨q+1,_,by omega,by go_num,by rw[H2.out],H3,hb'⟩
       case measure=>simp[intOf];omega
      ·have hlt1:¬((q:Int)<1):=by omega
       have he:Hid (sv=Tr.seen a):=J1 (by
        rw[hsv.out,C7 (by have:=HM.out;omega)]
        exact HEND.out)
       go_wp2_with fail;go_ret
       exact⟨by rw[he.out];rfl,J5 hb0 hb⟩)
  ·have hmn2:m=n:=by rw[hm,hL,if_neg h34,HN.out]
   obtain rfl:=hmn2
   have h3:(kd == 3)=false:=by simp;omega
   have h4:(kd == 4)=false:=by simp;omega
   clear hL hm h34 hk;go_enter Tryz.func26,Tryz.ntmps26
   go_upto_region 1 with(fail)
   rw[←HW.out];go_wp2_with fail
   go_loopw [4,27] (fun s i wr=>∃(q sv:Nat),q≤m∧i=.int .i64 q∧s=.int .u64 sv∧Hid (sv=Tr.seens (L.take q))∧Below W0 W0 wr) (fun _ i _=>m-(intOf i).toNat)
   case atStart=>exact⟨0,0,E3 _,rfl,rfl,J1 (by rw[F8,Tr.seens]),Below.refl _ _⟩
   case round =>
    obtain⟨q,sv,hq,rfl,rfl,hsv,hb⟩:=hrel
    by_cases hlt:q<m
    ·obtain⟨b,gL⟩:∃b,L[q]?=some b:=⟨L[q]'(by have:=HM.out;omega),A8 _⟩
     have gb:=HLA.out q b gL;have hu:=HU.out;rw[HN.out]at hu;obtain⟨e,bb,oo,ss,xx,yy,he,rfl,_,hx⟩:=hu.at_ gb;obtain⟨hcell,hps,hks⟩:=hx wr hb;obtain⟨A2,c2,rfl,_⟩:=hks.form;obtain⟨D2,hps2⟩:=hps;obtain⟨A3,c3,rfl,_⟩:=hps2.form;have hba:=J5 hb (J6 wr (Obj.cells #[b.k,b.t,.slice A2 b.ks.length c2,.slice A3 b.cs.length c3,b.h] 26));obtain⟨_,hps3,hks3⟩:=hx _ hba;have cs:=IH.out e he b _ _ _ hks3 hps3;have hqn:q<m:=C9 hlt hmn
     have ht:L.take (q+1)=L.take q++[b]:=by rw[D7,gL];rfl
     have hsl:sv<18446744073709551616:=by rw[hsv.out];exact Tr.seens_lt _
     have H2:=J1 (u64_or_nat sv (Tr.seen b) hsl (Tr.seen_lt b))
     have H3:=J1 (show sv ||| Tr.seen b=Tr.seens (L.take (q+1)) by rw[ht,Tr.seens_snoc,hsv.out])
     have HBA:=J1 hba;obtain⟨x0,x1,x2,x3,x4⟩:=hcell
     have hlt1:(q:Int)<(m:Int):=by omega
     clear gL gb hx hps2 hks hps3 hks3 ht hsl hu hb hba he q0 q1 q2 q3 q4;go_wp2_with fail;refine cs.mono ?_;rintro e w2 ⟨rfl,hb2⟩;have hb':=J5 HBA.out hb2;clear cs x0 x1 x2 x3 x4 hb2;go_wp2_with fail
     go_roundw
     case rel=>exact⟨q+1,_,by omega,by go_num,by rw[H2.out],H3,hb'⟩
     case measure=>simp[intOf];omega
    ·have hlt1:¬((q:Int)<(m:Int)):=by omega
     have he:Hid (sv=Tr.seen a):=J1 (by
      rw[hsv.out,C7 (by have:=HM.out;omega)]
      exact HEND.out)
     go_wp2_with fail;go_ret
     exact⟨by rw[he.out];rfl,J5 hb0 hb⟩
end Go.Proofs.YtbddhkgbpjhhaaaGreatDoor
