/-
  LAID TOGETHER, BY PROGRAM, of: Predq, Predr, Preds, Predt, Predu, Ckn, Cko.
-/
import Derived.Test.YtbddhkgbpjhhaaaGreatDoorGOwn
import Derived.Test.YtbddhkgbpjhhaaaGreatDoorGPl2
import Derived.Test.YtbddhkgbpjhhaaaGreatDoorGTreeA
import Derived.Test.YtbddhkgbpjhhaaaGreatDoorGBase
import Derived.Test.YtbddhkgbpjhhaaaGreatDoorGPred
import Derived.Deep.Cut
import Derived.Deep.RegionHeld3
set_option maxHeartbeats 3200000
set_option maxRecDepth 100000
namespace Go.Proofs.YtbddhkgbpjhhaaaGreatDoor
open Go.RowKit Go.Sort
theorem A2d (f g:Pf) (A B:Option Addr) (n m c e:Nat) (w:World) :
  Calls Tryz.prog 160 #[.agg #[f.k,f.u,f.o,f.a.k,f.a.t,f.a.c,f.a.z,f.a.n,f.b.k,f.b.t,f.b.c,f.b.z,f.b.n,.slice A n c],.agg #[g.k,g.u,g.o,g.a.k,g.a.t,g.a.c,g.a.z,g.a.n,g.b.k,g.b.t,g.b.c,g.b.z,g.b.n,.slice B m e]] w fun e w'=>e=.returned (.bool (Pr.fsame f g))∧Below w w w':=by
 obtain⟨W0,hW0⟩:∃W0,W0=(w.alloc (Obj.cells #[f.k,f.u,f.o,f.a.k,f.a.t,f.a.c,f.a.z,f.a.n,f.b.k,f.b.t,f.b.c,f.b.z,f.b.n,.slice A n c] 57)).alloc (Obj.cells #[g.k,g.u,g.o,g.a.k,g.a.t,g.a.c,g.a.z,g.a.n,g.b.k,g.b.t,g.b.c,g.b.z,g.b.n,.slice B m e] 57):=⟨_,rfl⟩;obtain⟨p0,p1,hb0,hlt0⟩:=A4H hW0;have HW:=J1 hW0;have HP:=J1 p0;have HQ:=J1 p1;have HL:=J1 hlt0;have ca:=A2Z f.a.k f.a.t f.a.c f.a.z f.a.n g.a.k g.a.t g.a.c g.a.z g.a.n;have cb:=A2Z f.b.k f.b.t f.b.c f.b.z f.b.n g.b.k g.b.t g.b.c g.b.z g.b.n;have hR:Pr.fsame f g=(f.k == g.k&&f.u == g.u&&f.o == g.o&&Te.same ⟨f.a.k,f.a.t,f.a.c,f.a.z,f.a.n⟩ ⟨g.a.k,g.a.t,g.a.c,g.a.z,g.a.n⟩&&Te.same ⟨f.b.k,f.b.t,f.b.c,f.b.z,f.b.n⟩ ⟨g.b.k,g.b.t,g.b.c,g.b.z,g.b.n⟩):=rfl;rw[hR];obtain⟨e0,h0⟩:∃e0,e0=(f.k == g.k):=⟨_,rfl⟩;obtain⟨e1,h1⟩:∃e1,e1=(f.u == g.u):=⟨_,rfl⟩;obtain⟨e2,h2⟩:∃e2,e2=(f.o == g.o):=⟨_,rfl⟩;obtain⟨e3,h3⟩:∃e3,e3=Te.same ⟨f.a.k,f.a.t,f.a.c,f.a.z,f.a.n⟩ ⟨g.a.k,g.a.t,g.a.c,g.a.z,g.a.n⟩:=⟨_,rfl⟩;obtain⟨e4,h4⟩:∃e4,e4=Te.same ⟨f.b.k,f.b.t,f.b.c,f.b.z,f.b.n⟩ ⟨g.b.k,g.b.t,g.b.c,g.b.z,g.b.n⟩:=⟨_,rfl⟩;rw[←h3]at ca;rw[←h4]at cb;rw[←h0,←h1,←h2,←h3,←h4];have k0:=p0.c0;have k1:=p0.c1;have k2:=p0.c2;have k3:=p0.c3;have k4:=p0.c4;have k5:=p0.c5;have k6:=p0.c6;have k7:=p0.c7;have m0:=p1.c0;have m1:=p1.c1;have m2:=p1.c2;have m3:=p1.c3;have m4:=p1.c4;have m5:=p1.c5;have m6:=p1.c6;have m7:=p1.c7;have d0:=h0.symm;have d1:=h1.symm;have d2:=h2.symm;clear hW0 p0 p1 h0 h1 h2 h3 h4 hR hlt0;go_enter Tryz.func160,Tryz.ntmps160
 go_upto_region 1 with(fail)
 rw[←HW.out];cases e0
 ·go_wp2_with fail;go_ret;exact⟨rfl,hb0⟩
 cases e1
 ·go_wp2_with fail;go_ret;exact⟨rfl,hb0⟩
 cases e2
 ·go_wp2_with fail;go_ret;exact⟨rfl,hb0⟩
 cases e3
 ·go_wp2_with (first | (with_reducible refine(ca _).mono ?_;rintro e w2 ⟨rfl,hb2⟩))
  go_ret;exact⟨rfl,J5 hb0 hb2⟩
 go_wp2_with fail;refine(ca _).mono ?_;rintro e w2 ⟨rfl,hb2⟩
 obtain⟨_,_,_,_,_,_,_,_,q8,q9,q10,q11,q12,_⟩:=HP.out.below hb2 (show w.heap.size<W0.heap.size by have:=HL.out;omega)
 obtain⟨_,_,_,_,_,_,_,_,r8,r9,r10,r11,r12,_⟩:=HQ.out.below hb2 (show w.heap.size+1<W0.heap.size from HL.out)
 have hb3:=J5 hb0 hb2;clear k0 k1 k2 k3 k4 k5 k6 k7 m0 m1 m2 m3 m4 m5 m6 m7 d0 d1 d2 hb2 ca
 go_wp2_with (first | (with_reducible refine(cb _).mono ?_;rintro e w3 ⟨rfl,hb4⟩))
 go_ret
 exact⟨J8 (by simp),J5 hb3 hb4⟩
theorem A5r (A B:Option Addr) (n m c e:Nat) (w:World) (h:n≠m) :
  Calls Tryz.prog 161 #[.slice A n c,.slice B m e,.func (.func 140) #[] #[]] w fun e w'=>e=.returned (.bool false)∧w=w':=by
 have d1:((n:Int) != (m:Int))=true:=by simp;omega
 have d2:(n != m)=true:=by simpa using h
 clear h;go_enter Tryz.func161,Tryz.ntmps161;go_wp2_with fail;go_ret;exact⟨rfl,rfl⟩
theorem A6F (d:Nat) (ih:∀e,e<d→∀(f g:Pf) (u v:Value) (ps qs:List Pd) (w:World),PsAt e w u ps→PsAt e w v qs→Calls Tryz.prog 140 #[.agg #[f.k,f.u,f.o,f.a.k,f.a.t,f.a.c,f.a.z,f.a.n,f.b.k,f.b.t,f.b.c,f.b.z,f.b.n,u],.agg #[g.k,g.u,g.o,g.a.k,g.a.t,g.a.c,g.a.z,g.a.n,g.b.k,g.b.t,g.b.c,g.b.z,g.b.n,v]] w fun e w'=>e=.returned (.bool (Pr.same (.mk f ps) (.mk g qs)))∧Below w w w') (u v:Value) (ps qs:List Pd) (w:World) (hu:PsAt d w u ps) (hv:PsAt d w v qs) :
  Calls Tryz.prog 161 #[u,v,.func (.func 140) #[] #[]] w fun e w'=>e=.returned (.bool (Pr.sames ps qs))∧Below w w w':=by
 obtain⟨A,c,rfl,hl⟩:=hu.form;obtain⟨B,c',rfl,hl'⟩:=hv.form
 by_cases hn:ps.length=qs.length
 ·have HU:=J1 hu;have HV:=J1 hv;have IH:=J1 ih;have HS:=J1 (Pr.sames_iff hn);obtain⟨n,hn1⟩:∃n,n=ps.length:=⟨_,rfl⟩;rw[←hn1]at hl HU hn ⊢;rw[←hn]at HV ⊢;have HN:=J1 hn1;have HM:=J1 hn;clear ih hu hv hn hn1 hl';go_enter Tryz.func161,Tryz.ntmps161;go_wp2_with fail
  go_loopw [17] (fun i wr=>∃(q:Nat),q≤n∧i=.int .i64 q∧Hid (∀(j:Nat) (p p':Pd),j<q→ps[j]?=some p→qs[j]?=some p'→Pr.same p p'=true)∧Below w w wr) (fun i _=>n-(intOf i).toNat)
  case atStart=>exact⟨0,E3 _,rfl,J1 (fun j p p' h=>by omega),Below.refl _ _⟩
  case round =>
   obtain⟨q,hq,rfl,hsv,hb⟩:=hrel
   by_cases hlt:q<n
   ·obtain⟨p,gp⟩:∃p,ps[q]?=some p:=⟨ps[q]'(by have:=HN.out;omega),A8 _⟩
    obtain⟨p',gp'⟩:∃p,qs[q]?=some p:=⟨qs[q]'(by have:=HM.out;omega),A8 _⟩
    have hu:=HU.out;rw[HN.out]at hu;have hv:=HV.out;rw[HM.out]at hv;obtain⟨e,b,o,s,v,he,rfl,_,hx⟩:=hu.at_ gp;obtain⟨e',b',o',s',v',he',rfl,hblt,hx'⟩:=hv.at_ gp';obtain⟨ha,hf1⟩:=hx wr hb;obtain⟨hb2,hf2⟩:=hx' wr hb;obtain⟨A2,c2,rfl,_⟩:=hf1.form;obtain⟨B2,c3,rfl,_⟩:=hf2.form
    have cs:=fun W (h:Below w w W)=>IH.out (max e e') (by omega) p.f p'.f _ _ p.ps p'.ps W ((hx W h).2.mono (by omega)) ((hx' W h).2.mono (by omega))
    have hpe:Pr.same (.mk p.f p.ps) (.mk p'.f p'.ps)=Pr.same p p':=by cases p;cases p';rfl
    rw[hpe]at cs;obtain⟨r,hr⟩:∃r,r=Pr.same p p':=⟨_,rfl⟩;rw[←hr]at cs;have HR:=J1 hr;have GP:=J1 gp;have GP':=J1 gp'
    have i1:(0:Int)≤(q:Int):=by omega
    have i2:(q:Int)<(n:Int):=by omega
    obtain⟨a0,a1,a2,a3,a4,a5,a6,a7,a8,a9,a10,a11,a12,a13⟩:=ha
    have hb2:=hb2.below (J6 wr (Obj.cells #[p.f.k,p.f.u,p.f.o,p.f.a.k,p.f.a.t,p.f.a.c,p.f.a.z,p.f.a.n,p.f.b.k,p.f.b.t,p.f.b.c,p.f.b.z,p.f.b.n,.slice A2 p.ps.length c2] 57)) (by rw[L7];exact C9 hblt hb.size)
    have hb3:Below w w ((wr.alloc (Obj.cells #[p.f.k,p.f.u,p.f.o,p.f.a.k,p.f.a.t,p.f.a.c,p.f.a.z,p.f.a.n,p.f.b.k,p.f.b.t,p.f.b.c,p.f.b.z,p.f.b.n,.slice A2 p.ps.length c2] 57)).alloc (Obj.cells #[p'.f.k,p'.f.u,p'.f.o,p'.f.a.k,p'.f.a.t,p'.f.a.c,p'.f.a.z,p'.f.a.n,p'.f.b.k,p'.f.b.t,p'.f.b.c,p'.f.b.z,p'.f.b.n,(.slice B2 p'.ps.length c3)] 57)):=J5 hb (M8 _ _ _);obtain⟨b0,b1,b2,b3,b4,b5,b6,b7,b8,b9,b10,b11,b12,b13⟩:=hb2;clear gp gp' hu hv hx hx' hpe hr hf1 hf2 hblt;go_wp2_with fail;refine(cs _ hb3).mono ?_;rintro e w2 ⟨rfl,hb4⟩;have hb5:=J5 hb3 hb4;clear cs hb3 hb4 hb a0 a1 a2 a3 a4 a5 a6 a7 a8 a9 a10 a11 a12 a13 b0 b1 b2 b3 b4 b5 b6 b7 b8 b9 b10 b11 b12 b13;cases r
    ·have he:Hid (Pr.sames ps qs=false):=J1 (by
      cases h:Pr.sames ps qs with
      | false=>rfl
      | true=>rw[HS.out]at h;rw[h q p p' GP.out GP'.out]at HR;exact absurd HR.out (by decide))
     go_wp2_with fail;go_ret;exact⟨J8 he.out.symm,hb5⟩
    ·have hs2:Hid (∀(j:Nat) (x x':Pd),j<q+1→ps[j]?=some x→qs[j]?=some x'→Pr.same x x'=true):=J1 (fun j x x' hj h1 h2=>by
      by_cases e:j=q
      ·subst e;rw[GP.out]at h1;rw[GP'.out]at h2;cases h1;cases h2;exact HR.out.symm
      ·exact hsv.out j x x' (by omega) h1 h2)
     go_wp2_with fail
     go_roundw
     case rel=>exact⟨q+1,by omega,by go_num,hs2,hb5⟩
     case measure=>simp[intOf];omega
   ·have he:Hid (Pr.sames ps qs=true):=J1 (HS.out.2 fun j p p' hj hj'=>hsv.out j p p' (by
     by_cases h:j<ps.length
     ·have:=HN.out;omega
     ·rw[E6 (by omega)]at hj;cases hj) hj hj')
    go_wp2_with fail;go_ret;exact⟨J8 he.out.symm,hb⟩
 ·rw[Pr.sames_length hn];exact(A5r A B _ _ c c' w hn).mono (fun e w' ⟨h1,h2⟩=>⟨h1,h2 ▸ Below.refl _ _⟩)
theorem A77 (d:Nat):∀(f g:Pf) (u v:Value) (ps qs:List Pd) (w:World),PsAt d w u ps→PsAt d w v qs→Calls Tryz.prog 140 #[.agg #[f.k,f.u,f.o,f.a.k,f.a.t,f.a.c,f.a.z,f.a.n,f.b.k,f.b.t,f.b.c,f.b.z,f.b.n,u],.agg #[g.k,g.u,g.o,g.a.k,g.a.t,g.a.c,g.a.z,g.a.n,g.b.k,g.b.t,g.b.c,g.b.z,g.b.n,v]] w fun e w'=>e=.returned (.bool (Pr.same (.mk f ps) (.mk g qs)))∧Below w w w':=by
 induction d using Nat.strongRecOn with
 | ind d ih =>
 intro f g u v ps qs w hu hv
 have hR:Pr.same (.mk f ps) (.mk g qs)=(Pr.fsame f g&&Pr.sames ps qs):=by rw[Pr.same]
 rw[hR];obtain⟨A,c,rfl,hl⟩:=hu.form;obtain⟨B,c',rfl,hl'⟩:=hv.form;obtain⟨W0,hW0⟩:∃W0,W0=(w.alloc (Obj.cells #[f.k,f.u,f.o,f.a.k,f.a.t,f.a.c,f.a.z,f.a.n,f.b.k,f.b.t,f.b.c,f.b.z,f.b.n,.slice A ps.length c] 57)).alloc (Obj.cells #[g.k,g.u,g.o,g.a.k,g.a.t,g.a.c,g.a.z,g.a.n,g.b.k,g.b.t,g.b.c,g.b.z,g.b.n,.slice B qs.length c'] 57):=⟨_,rfl⟩;obtain⟨p0,p1,hb0,hlt0⟩:=A4H hW0
 have hq:∀W,Below W0 W0 W→Calls Tryz.prog 161 #[.slice A ps.length c,.slice B qs.length c',.func (.func 140) #[] #[]] W fun e w'=>e=.returned (.bool (Pr.sames ps qs))∧Below W W w' :=
  fun W h=>A6F d ih _ _ ps qs W ((hu.below hb0 (C3 _)).below h (C3 _)) ((hv.below hb0 (C3 _)).below h (C3 _))
 have HW:=J1 hW0;have HP:=J1 p0;have HQ:=J1 p1;have HL:=J1 hlt0;have ca:=A2d f g A B ps.length qs.length c c';obtain⟨r,hr⟩:∃r,r=Pr.fsame f g:=⟨_,rfl⟩;obtain⟨r2,hr2⟩:∃r,r=Pr.sames ps qs:=⟨_,rfl⟩;rw[←hr]at ca ⊢;rw[←hr2]at hq ⊢;obtain⟨k0,k1,k2,k3,k4,k5,k6,k7,k8,k9,k10,k11,k12,k13⟩:=p0;obtain⟨m0,m1,m2,m3,m4,m5,m6,m7,m8,m9,m10,m11,m12,m13⟩:=p1;clear hW0 ih hu hv hR hl hl' hlt0 hr hr2;go_enter Tryz.func140,Tryz.ntmps140
 go_upto_region 1 with(fail)
 rw[←HW.out];go_wp2_with fail;refine(ca _).mono ?_;rintro e w2 ⟨rfl,hb2⟩;clear k0 k1 k2 k3 k4 k5 k6 k7 k8 k9 k10 k11 k12 k13 m0 m1 m2 m3 m4 m5 m6 m7 m8 m9 m10 m11 m12 m13
 have k13:=(HP.out.below hb2 (show w.heap.size<W0.heap.size by have:=HL.out;omega)).c13
 have m13:=(HQ.out.below hb2 (show w.heap.size+1<W0.heap.size from HL.out)).c13
 cases r
 ·go_wp2_with fail;go_ret;exact⟨rfl,J5 hb0 hb2⟩
 ·go_wp2_with fail;refine(hq _ hb2).mono ?_;rintro e w3 ⟨rfl,hb3⟩;clear k13 m13;go_wp2_with fail;go_ret
  exact⟨J8 (by simp),J5 hb0 (J5 hb2 hb3)⟩
theorem A6t (d:Nat) (f g:Pf) (u v:Value) (ps qs:List Pd) (w:World) (hu:PsAt d w u ps) (hv:PsAt d w v qs) :
  Calls Tryz.prog 140 #[.agg #[f.k,f.u,f.o,f.a.k,f.a.t,f.a.c,f.a.z,f.a.n,f.b.k,f.b.t,f.b.c,f.b.z,f.b.n,u],.agg #[g.k,g.u,g.o,g.a.k,g.a.t,g.a.c,g.a.z,g.a.n,g.b.k,g.b.t,g.b.c,g.b.z,g.b.n,v]] w fun e w'=>e=.returned (.bool (Pr.same (.mk f ps) (.mk g qs)))∧Below w w w':=A77 d f g u v ps qs w hu hv
theorem A7u {w:World} {b:Nat} {v:Value} (h:w.cell? ⟨b,0,none⟩=some v):b<w.heap.size:=by
 by_cases hb:b<w.heap.size
 ·exact hb
 ·have:w.heap[b]?=none:=Array.getElem?_eq_none (by omega)
  simp[World.cell?,this]at h
def Te.nil:Tm:=⟨0,0,0,false,0⟩
namespace Pr
theorem A1v (f g:Pf) (ps:List Pd):same (.mk f ps) (.mk g [])=(fsame f g&&ps.length == 0):=by
 rw[same]
 cases ps with
 | nil=>rw[sames];rfl
 | cons p r=>rw[sames_length (by simp)];simp
theorem A0d {ps:List Pd} (d:Nat) (h:(ps.length == 0)=true):rightAts ps d=true:=by
 obtain rfl:ps=[]:=D6 (by simpa using h)
 rfl
theorem A2s (x:Tm):Te.same x Te.nil=Te.zero x:=rfl
theorem A6d (x:Tm):Te.same x x=true:=by simp[Te.same]
theorem right_1 {f:Pf} {ps:List Pd} {d:Nat} (h:f.k=1) (hd:d≤4):rightAt (.mk f ps) d=(same (.mk f ps) (.mk ⟨f.k,f.u,0,Te.nil,Te.nil⟩ [])&&(f.u == 0||f.u == 1||f.u == 2)):=by
 rw[A1v,rightAt,head,tail];simp only[fsame,A2s];rw[if_pos h]
 have e1:(f.k == 1)=true:=by simpa using h
 have e2:(f.k == 2)=false:=by simp;omega
 have e3:(f.k == 3)=false:=by simp;omega
 have hu:(decide (0≤f.u)&&decide (f.u≤2))=(f.u == 0||f.u == 1||f.u == 2):=by
  rw[Bool.eq_iff_iff];simp;omega
 have h1:decide (1≤f.k)=true:=by simp;omega
 have h6:decide (f.k≤6)=true:=by simp;omega
 have hd':decide (d≤4)=true:=by simpa using hd
 rw[e1,e2,e3,h1,h6,hd',←hu]
 by_cases hn:(ps.length == 0)=true
 ·rw[A0d _ hn,hn]
  cases f.o == 0 <;> cases Te.zero f.a <;> cases Te.zero f.b <;> simp
 ·have hn':(ps.length == 0)=false:=by simpa using hn
  rw[hn'];simp
theorem right_2 {f:Pf} {ps:List Pd} {d:Nat} (h:f.k=2) (hd:d≤4):rightAt (.mk f ps) d=(same (.mk f ps) (.mk ⟨f.k,0,f.o,f.a,f.b⟩ [])&&(decide (1≤f.o)&&decide (f.o≤6))&&Te.right f.a&&Te.right f.b):=by
 rw[A1v,rightAt,head,tail];simp only[fsame,A6d]
 rw[if_neg (by omega),if_pos h]
 have e1:(f.k == 1)=false:=by simp;omega
 have e2:(f.k == 2)=true:=by simpa using h
 have e3:(f.k == 3)=false:=by simp;omega
 have h1:decide (1≤f.k)=true:=by simp;omega
 have h6:decide (f.k≤6)=true:=by simp;omega
 have hd':decide (d≤4)=true:=by simpa using hd
 rw[e1,e2,e3,h1,h6,hd']
 by_cases hn:(ps.length == 0)=true
 ·rw[A0d _ hn,hn]
  cases f.u == 0 <;> simp
 ·have hn':(ps.length == 0)=false:=by simpa using hn
  rw[hn'];simp
theorem right_3 {f:Pf} {ps:List Pd} {d:Nat} (h:f.k=3) (hd:d≤4):rightAt (.mk f ps) d=(same (.mk f ps) (.mk ⟨f.k,0,0,f.a,Te.nil⟩ [])&&Te.right f.a):=by
 rw[A1v,rightAt,head,tail];simp only[fsame,A6d,A2s]
 rw[if_neg (by omega),if_neg (by omega),if_pos h]
 have e1:(f.k == 1)=false:=by simp;omega
 have e2:(f.k == 2)=false:=by simp;omega
 have e3:(f.k == 3)=true:=by simpa using h
 have h1:decide (1≤f.k)=true:=by simp;omega
 have h6:decide (f.k≤6)=true:=by simp;omega
 have hd':decide (d≤4)=true:=by simpa using hd
 rw[e1,e2,e3,h1,h6,hd']
 by_cases hn:(ps.length == 0)=true
 ·rw[A0d _ hn,hn]
  cases f.u == 0 <;> cases f.o == 0 <;> cases Te.zero f.b <;> simp
 ·have hn':(ps.length == 0)=false:=by simpa using hn
  rw[hn'];simp
theorem A17 {f:Pf} {ps:List Pd} {d:Nat} (h1:f.k=4∨f.k=5∨f.k=6) (hd:d≤4) (b:Bool) (hb:tail f ps.length=b):rightAt (.mk f ps) d=(b&&(fsame f ⟨f.k,0,0,Te.nil,Te.nil⟩&&rightAts ps (d+1))):=by
 rw[rightAt,head,hb];simp only[fsame,A2s]
 have e1:(f.k == 1)=false:=by simp;omega
 have e2:(f.k == 2)=false:=by simp;omega
 have e3:(f.k == 3)=false:=by simp;omega
 have h1:decide (1≤f.k)=true:=by simp;omega
 have h6:decide (f.k≤6)=true:=by simp;omega
 have hd':decide (d≤4)=true:=by simpa using hd
 rw[e1,e2,e3,h1,h6,hd']
 cases b <;> cases f.u == 0 <;> cases f.o == 0 <;> cases Te.zero f.a <;> cases Te.zero f.b <;> simp
theorem right_45 {f:Pf} {ps:List Pd} {d:Nat} (h:f.k=4∨f.k=5) (hd:d≤4):rightAt (.mk f ps) d=(decide (ps.length≤4)&&(fsame f ⟨f.k,0,0,Te.nil,Te.nil⟩&&rightAts ps (d+1))) :=
 A17 (by omega) hd _ (by unfold tail;rw[if_neg (by omega),if_neg (by omega),if_neg (by omega),if_neg (by omega)])
theorem right_6 {f:Pf} {ps:List Pd} {d:Nat} (h:f.k=6) (hd:d≤4):rightAt (.mk f ps) d=((ps.length == 1)&&(fsame f ⟨f.k,0,0,Te.nil,Te.nil⟩&&rightAts ps (d+1))) :=
 A17 (by omega) hd _ (by unfold tail;rw[if_neg (by omega),if_neg (by omega),if_neg (by omega),if_pos h])
theorem right_deep {f:Pf} {ps:List Pd} {d:Nat} (hd:¬d≤4):rightAt (.mk f ps) d=false:=by
 have hd':decide (d≤4)=false:=by simpa using hd
 rw[rightAt,head,hd'];simp
theorem right_no {f:Pf} {ps:List Pd} {d:Nat} (h:f.k<1∨6<f.k):rightAt (.mk f ps) d=false:=by
 rw[rightAt,head]
 rcases h with h | h
 ·have h1:decide (1≤f.k)=false:=by simp;omega
  rw[h1];simp
 ·have h1:decide (f.k≤6)=false:=by simp;omega
  rw[h1];simp
theorem rightAts_any (l:List Pd) (d:Nat):(!l.any fun p=>!rightAt p d)=rightAts l d:=by
 rw[Bool.eq_iff_iff,rightAts_iff];simp
end Pr
theorem A6I (o:Int) (w:World) :
  Calls Tryz.prog 142 #[o] w fun e w'=>e=.returned (.bool (decide (1≤o)&&decide (o≤6)))∧w=w':=by
 by_cases h1:1≤o
 ·have e1:decide (1≤o)=true:=by simpa using h1
  rw[e1,Bool.true_and];go_enter Tryz.func142,Tryz.ntmps142;go_wp2_with fail;go_ret;exact⟨rfl,rfl⟩
 ·have e1:decide (1≤o)=false:=by simpa using h1
  rw[e1,Bool.false_and];go_enter Tryz.func142,Tryz.ntmps142;go_wp2_with fail;go_ret;exact⟨rfl,rfl⟩
theorem A6B (dp:Nat) (b:Nat) (f:Pf) (A:Option Addr) (n c:Nat) (r:Bool) (w:World) (hdp:dp≤1000) (hc:w.cell? ⟨b,0,none⟩=some (.int .i64 (dp:Int)))
  (hs:∀W,Below w w W→Calls Tryz.prog 121 #[.agg #[f.k,f.u,f.o,f.a.k,f.a.t,f.a.c,f.a.z,f.a.n,f.b.k,f.b.t,f.b.c,f.b.z,f.b.n,.slice A n c],.int .i64 ((dp:Int)+1)] W fun e w'=>e=.returned (.bool r)∧Below W W w') :
  Calls Tryz.prog 165 #[.agg #[f.k,f.u,f.o,f.a.k,f.a.t,f.a.c,f.a.z,f.a.n,f.b.k,f.b.t,f.b.c,f.b.z,f.b.n,.slice A n c],.pointer (some ⟨b,0,none⟩)] w fun e w'=>e=.returned (.bool (!r))∧Below w w w':=by
 obtain⟨W0,hW0⟩:∃W0,W0=w.alloc (Obj.cells #[f.k,f.u,f.o,f.a.k,f.a.t,f.a.c,f.a.z,f.a.n,f.b.k,f.b.t,f.b.c,f.b.z,f.b.n,.slice A n c] 57):=⟨_,rfl⟩;obtain⟨l0,p0,hb0⟩:=V9 hW0;have hbb:b<w.heap.size:=A7u hc;have hc0:W0.cell? ⟨b,0,none⟩=some (.int .i64 (dp:Int)):=(hb0.cell (p:=⟨b,0,none⟩) hbb).trans hc;have cs:=hs W0 hb0;have HW:=J1 hW0;obtain⟨k0,k1,k2,k3,k4,k5,k6,k7,k8,k9,k10,k11,k12,k13⟩:=p0;clear hW0 l0 hc hs hbb;go_enter Tryz.func165,Tryz.ntmps165
 go_upto_region 1 with(fail)
 rw[←HW.out];go_wp2_with fail;refine cs.mono ?_;rintro e w2 ⟨rfl,hb2⟩;clear cs k0 k1 k2 k3 k4 k5 k6 k7 k8 k9 k10 k11 k12 k13;go_wp2_with fail;go_ret;exact⟨rfl,J5 hb0 hb2⟩
theorem A6C (d dp:Nat) (ih:∀e,e<d→∀(f:Pf) (u:Value) (ps:List Pd) (dp:Nat) (w:World),PsAt e w u ps→dp≤1000→Calls Tryz.prog 121 #[.agg #[f.k,f.u,f.o,f.a.k,f.a.t,f.a.c,f.a.z,f.a.n,f.b.k,f.b.t,f.b.c,f.b.z,f.b.n,u],(dp:Int)] w fun e w'=>e=.returned (.bool (Pr.rightAt (.mk f ps) dp))∧Below w w w') (b:Nat) (u:Value) (ps:List Pd) (w:World) (hu:PsAt d w u ps) (hdp:dp≤999) (hc:w.cell? ⟨b,0,none⟩=some (.int .i64 (dp:Int))) :
  Calls Tryz.prog 187 #[u,.func (.func 165) #[] #[.pointer (some ⟨b,0,none⟩)]] w fun e w'=>(∃r:Int,e=.returned (.int .i64 r)∧decide (0≤r)=ps.any fun p=>!Pr.rightAt p (dp+1))∧Below w w w':=by
 obtain⟨A,c,rfl,hl⟩:=hu.form;have HU:=J1 hu;have IH:=J1 ih;have HC:=J1 hc;obtain⟨n,hn⟩:∃n,n=ps.length:=⟨_,rfl⟩;rw[←hn]at hl HU ⊢;have HN:=J1 hn;clear hn hu ih hc;go_enter Tryz.func187,Tryz.ntmps187;go_wp2_with fail
 go_loopw [8] (fun i wr=>∃q:Nat,q≤n∧i=.int .i64 q∧Hid (((ps.take q).any fun p=>!Pr.rightAt p (dp+1))=false)∧Below w w wr) (fun i _=>n-(intOf i).toNat)
 case atStart=>exact⟨0,E3 _,rfl,J1 (by simp),Below.refl _ _⟩
 case round =>
  obtain⟨q,hq,rfl,hno,hb⟩:=hrel
  by_cases hlt:q<n
  ·obtain⟨p,gp⟩:∃p,ps[q]?=some p:=⟨ps[q]'(by have:=HN.out;omega),A8 _⟩
   have hu:=HU.out;rw[HN.out]at hu;obtain⟨e,b',o,s,v,he,rfl,hblt,hx⟩:=hu.at_ gp;obtain⟨ha,hf1⟩:=hx wr hb;obtain⟨A2,c2,rfl,_⟩:=hf1.form
   have hpe:Pd.mk p.f p.ps=p:=by cases p;rfl
   obtain⟨r,hr⟩:∃r,r=Pr.rightAt p (dp+1):=⟨_,rfl⟩;have hcr:wr.cell? ⟨b,0,none⟩=some (.int .i64 (dp:Int)):=(hb.cell (p:=⟨b,0,none⟩) (A7u HC.out)).trans HC.out
   have cs:=A6B dp b p.f A2 p.ps.length c2 r wr (by omega) hcr (fun W h=>by
    have k:=IH.out e he p.f _ p.ps (dp+1) W ((hx W (J5 hb h)).2) (by omega)
    rw[hpe,←hr]at k;exact k)
   have HR:=J1 hr;have GP:=J1 gp;obtain⟨a0,a1,a2,a3,a4,a5,a6,a7,a8,a9,a10,a11,a12,a13⟩:=ha;clear gp hu hx hpe hr hf1 hblt hcr;go_wp2_with fail;refine cs.mono ?_;rintro e w2 ⟨rfl,hb2⟩;have hb3:=J5 hb hb2;clear cs hb2 hb a0 a1 a2 a3 a4 a5 a6 a7 a8 a9 a10 a11 a12 a13;cases r
   ·have he:Hid ((ps.any fun p=>!Pr.rightAt p (dp+1))=true):=J1 (F4.2 ⟨p,C8 GP.out,by rw[←HR.out];rfl⟩)
    go_wp2_with fail;go_ret
    exact⟨⟨q,rfl,by rw[he.out];simp⟩,hb3⟩
   ·have hs2:Hid (((ps.take (q+1)).any fun p=>!Pr.rightAt p (dp+1))=false):=J1 (by
     rw[D7,GP.out,List.any_append,hno.out];simp[←HR.out])
    go_wp2_with fail
    go_roundw
    case rel=>exact⟨q+1,by omega,by go_num,hs2,hb3⟩
    case measure=>simp[intOf];omega
  ·have he:Hid ((ps.any fun p=>!Pr.rightAt p (dp+1))=false):=J1 (by rw[←hno.out,C7 (by have:=HN.out;omega)])
   go_wp2_with fail;go_ret
   exact⟨⟨-1,rfl,by rw[he.out];rfl⟩,hb⟩
theorem A3e (d dp:Nat) (ih:∀e,e<d→∀(f:Pf) (u:Value) (ps:List Pd) (dp:Nat) (w:World),PsAt e w u ps→dp≤1000→Calls Tryz.prog 121 #[.agg #[f.k,f.u,f.o,f.a.k,f.a.t,f.a.c,f.a.z,f.a.n,f.b.k,f.b.t,f.b.c,f.b.z,f.b.n,u],(dp:Int)] w fun e w'=>e=.returned (.bool (Pr.rightAt (.mk f ps) dp))∧Below w w w') (b:Nat) (u:Value) (ps:List Pd) (w:World) (hu:PsAt d w u ps) (hdp:dp≤999) (hc:w.cell? ⟨b,0,none⟩=some (.int .i64 (dp:Int))) :
  Calls Tryz.prog 164 #[u,.func (.func 165) #[] #[.pointer (some ⟨b,0,none⟩)]] w fun e w'=>e=.returned (.bool (ps.any fun p=>!Pr.rightAt p (dp+1)))∧Below w w w':=by
 have cs:=A6C d dp ih b u ps w hu hdp hc;obtain⟨r,hr⟩:∃r,r=(ps.any fun p=>!Pr.rightAt p (dp+1)):=⟨_,rfl⟩;rw[←hr]at cs ⊢;obtain⟨A,c,rfl,hl⟩:=hu.form;clear ih hu hc hr hl;go_enter Tryz.func164,Tryz.ntmps164;go_wp2_with fail;refine cs.mono ?_;rintro e w2 ⟨⟨i,rfl,hi⟩,hb2⟩;clear cs;go_wp2_with fail;go_ret;exact⟨rfl,hb2⟩
theorem A6A (d dp:Nat) (ih:∀e,e<d→∀(f:Pf) (u:Value) (ps:List Pd) (dp:Nat) (w:World),PsAt e w u ps→dp≤1000→Calls Tryz.prog 121 #[.agg #[f.k,f.u,f.o,f.a.k,f.a.t,f.a.c,f.a.z,f.a.n,f.b.k,f.b.t,f.b.c,f.b.z,f.b.n,u],(dp:Int)] w fun e w'=>e=.returned (.bool (Pr.rightAt (.mk f ps) dp))∧Below w w w') (f:Pf) (u:Value) (ps:List Pd) (w:World) (hu:PsAt d w u ps) (hdp:dp≤999) :
  Calls Tryz.prog 144 #[.agg #[f.k,f.u,f.o,f.a.k,f.a.t,f.a.c,f.a.z,f.a.n,f.b.k,f.b.t,f.b.c,f.b.z,f.b.n,u],(dp:Int)] w fun e w'=>e=.returned (.bool (Pr.fsame f ⟨f.k,0,0,Te.nil,Te.nil⟩&&Pr.rightAts ps (dp+1)))∧Below w w w':=by
 rw[←Pr.rightAts_any];obtain⟨A,c,rfl,hl⟩:=hu.form;obtain⟨W0,hW0⟩:∃W0,W0=(w.alloc (Obj.cells #[f.k,f.u,f.o,f.a.k,f.a.t,f.a.c,f.a.z,f.a.n,f.b.k,f.b.t,f.b.c,f.b.z,f.b.n,.slice A ps.length c] 57)).alloc (Obj.cells #[(dp:Int)] 3):=⟨_,rfl⟩;obtain⟨l0,l1,hb0⟩:=Q0 (cs:=f.cells (.slice A ps.length c)) (ds:=[(dp:Int)]) hW0
 have cq:∀W,Below W0 W0 W→Calls Tryz.prog 164 #[.slice A ps.length c,.func (.func 165) #[] #[.pointer (some ⟨w.heap.size+1,0,none⟩)]] W fun e w'=>e=.returned (.bool (ps.any fun p=>!Pr.rightAt p (dp+1)))∧Below W W w' :=
  fun W h=>A3e d dp ih (w.heap.size+1) _ ps W ((hu.below hb0 (C3 _)).below h (C3 _)) hdp ((l1.below h l1.lt).c 0 rfl)
 have ca:=A2d f ⟨f.k,0,0,Te.nil,Te.nil⟩ A none ps.length 0 c 0;obtain⟨r1,hr1⟩:∃r,r=Pr.fsame f ⟨f.k,0,0,Te.nil,Te.nil⟩:=⟨_,rfl⟩;obtain⟨r2,hr2⟩:∃r,r=(ps.any fun p=>!Pr.rightAt p (dp+1)):=⟨_,rfl⟩;rw[←hr1]at ca ⊢;rw[←hr2]at cq ⊢;have HW:=J1 hW0;have HP:=J1 l0.pd;have HL:=J1 l0.lt;obtain⟨k0,k1,k2,k3,k4,k5,k6,k7,k8,k9,k10,k11,k12,k13⟩:=l0.pd;clear hW0 l0 l1 ih hu hl hr1 hr2;go_enter Tryz.func144,Tryz.ntmps144
 go_upto_region 1 with(fail)
 rw[←HW.out];go_wp2_with fail;refine(ca _).mono ?_;rintro e w2 ⟨rfl,hb2⟩;clear ca k0 k1 k2 k3 k4 k5 k6 k7 k8 k9 k10 k11 k12 k13
 have k13:=(HP.out.below hb2 (show w.heap.size<W0.heap.size from HL.out)).c13
 cases r1
 ·go_wp2_with fail;go_ret;exact⟨rfl,J5 hb0 hb2⟩
 ·go_wp2_with fail;refine(cq _ hb2).mono ?_;rintro e w3 ⟨rfl,hb3⟩;clear k13;go_wp2_with fail;go_ret
  exact⟨J8 (by simp),J5 hb0 (J5 hb2 hb3)⟩
theorem A9P (d:Nat) (w:World):PsAt d w (.slice none 0 0) []:=PsAt.mono (d:=0) ⟨rfl,none,0,rfl⟩ (E3 _)
theorem A0P (d:Nat) (f g:Pf) (A:Option Addr) (c:Nat) (ps:List Pd) {W0:World} (hu:PsAt d W0 (.slice A ps.length c) ps) :
  ∀W,Below W0 W0 W→Calls Tryz.prog 140 #[.agg #[f.k,f.u,f.o,f.a.k,f.a.t,f.a.c,f.a.z,f.a.n,f.b.k,f.b.t,f.b.c,f.b.z,f.b.n,.slice A ps.length c],.agg #[g.k,g.u,g.o,g.a.k,g.a.t,g.a.c,g.a.z,g.a.n,g.b.k,g.b.t,g.b.c,g.b.z,g.b.n,()]] W fun e w'=>e=.returned (.bool (Pr.same (.mk f ps) (.mk g [])))∧Below W W w' :=
 fun W h=>A6t d f g _ _ ps [] W (hu.below h (C3 _)) (A9P d W)
theorem A6v (d:Nat):∀(f:Pf) (u:Value) (ps:List Pd) (dp:Nat) (w:World),PsAt d w u ps→dp≤1000→Calls Tryz.prog 121 #[.agg #[f.k,f.u,f.o,f.a.k,f.a.t,f.a.c,f.a.z,f.a.n,f.b.k,f.b.t,f.b.c,f.b.z,f.b.n,u],(dp:Int)] w fun e w'=>e=.returned (.bool (Pr.rightAt (.mk f ps) dp))∧Below w w w':=by
 induction d using Nat.strongRecOn with
 | ind d ih =>
 intro f u ps dp w hu hdp;obtain⟨A,c,rfl,hl⟩:=hu.form;obtain⟨W0,hW0⟩:∃W0,W0=w.alloc (Obj.cells #[f.k,f.u,f.o,f.a.k,f.a.t,f.a.c,f.a.z,f.a.n,f.b.k,f.b.t,f.b.c,f.b.z,f.b.n,.slice A ps.length c] 57):=⟨_,rfl⟩;obtain⟨l0,p0,hb0⟩:=V9 hW0;have hu0:=hu.below hb0 (C3 _);have HU:=J1 hu0;have HW:=J1 hW0;have HP:=J1 p0;have HL:=J1 l0.lt;have IH:=J1 ih
 by_cases h4:dp≤4
 rotate_left
 ·rw[Pr.right_deep h4]
  have h5:4<dp:=by omega
  clear hu hu0 ih p0 l0 hW0;go_enter Tryz.func121,Tryz.ntmps121
  go_upto_region 1 with(fail)
  rw[←HW.out];go_wp2_with fail;go_ret;exact⟨rfl,hb0⟩
 by_cases k1:f.k=1
 ·rw[Pr.right_1 k1 h4];have cs:=A0P d f ⟨f.k,f.u,0,Te.nil,Te.nil⟩ A c ps hu0 W0 (Below.refl _ _);have cr:=A2i f.u;obtain⟨r1,hr1⟩:∃r,r=Pr.same (.mk f ps) (.mk ⟨f.k,f.u,0,Te.nil,Te.nil⟩ []):=⟨_,rfl⟩
  obtain⟨r2,hr2⟩:∃r,r=(f.u == 0||f.u == 1||f.u == 2):=⟨_,rfl⟩
  rw[←hr1]at cs ⊢;rw[←hr2]at cr ⊢
  have e1:(f.k == 1)=true:=by simpa using k1
  obtain⟨x0,x1,x2,x3,x4,x5,x6,x7,x8,x9,x10,x11,x12,x13⟩:=p0;clear hu hu0 ih l0 hW0 hr1 hr2 k1;go_enter Tryz.func121,Tryz.ntmps121
  go_upto_region 1 with(fail)
  rw[←HW.out];go_wp2_with fail;refine cs.mono ?_;rintro e w2 ⟨rfl,hb2⟩;clear cs x0 x1 x2 x3 x4 x5 x6 x7 x8 x9 x10 x11 x12 x13
  have x1:=(HP.out.below hb2 (show w.heap.size<W0.heap.size from HL.out)).c1
  cases r1
  ·go_wp2_with fail;go_ret;exact⟨rfl,J5 hb0 hb2⟩
  ·go_wp2_with fail;refine(cr _).mono ?_;rintro e w3 ⟨rfl,rfl⟩;clear x1 cr;go_wp2_with fail;go_ret
   exact⟨J8 (by simp),J5 hb0 hb2⟩
 by_cases k2:f.k=2
 ·rw[Pr.right_2 k2 h4];have cs:=A0P d f ⟨f.k,0,f.o,f.a,f.b⟩ A c ps hu0 W0 (Below.refl _ _);have cr:=A6I f.o;have ca:=A0M f.a.k f.a.t f.a.c f.a.z f.a.n;have cb:=A0M f.b.k f.b.t f.b.c f.b.z f.b.n;obtain⟨r1,hr1⟩:∃r,r=Pr.same (.mk f ps) (.mk ⟨f.k,0,f.o,f.a,f.b⟩ []):=⟨_,rfl⟩;obtain⟨r2,hr2⟩:∃r,r=(decide (1≤f.o)&&decide (f.o≤6)):=⟨_,rfl⟩;obtain⟨r3,hr3⟩:∃r,r=Te.right ⟨f.a.k,f.a.t,f.a.c,f.a.z,f.a.n⟩:=⟨_,rfl⟩;obtain⟨r4,hr4⟩:∃r,r=Te.right ⟨f.b.k,f.b.t,f.b.c,f.b.z,f.b.n⟩:=⟨_,rfl⟩;have hr3':Te.right f.a=r3:=hr3.symm;have hr4':Te.right f.b=r4:=hr4.symm;rw[←hr1]at cs ⊢;rw[←hr2]at cr ⊢;rw[←hr3]at ca;rw[←hr4]at cb;rw[hr3',hr4']
  have e1:(f.k == 1)=false:=by simp;omega
  have e2:(f.k == 2)=true:=by simpa using k2
  obtain⟨x0,x1,x2,x3,x4,x5,x6,x7,x8,x9,x10,x11,x12,x13⟩:=p0;clear hu hu0 ih l0 hW0 hr1 hr2 hr3 hr4 hr3' hr4' k1 k2;go_enter Tryz.func121,Tryz.ntmps121
  go_upto_region 1 with(fail)
  rw[←HW.out];go_wp2_with fail;refine cs.mono ?_;rintro e w2 ⟨rfl,hb2⟩;clear cs x0 x1 x2 x3 x4 x5 x6 x7 x8 x9 x10 x11 x12 x13
  obtain⟨x0,x1,x2,x3,x4,x5,x6,x7,x8,x9,x10,x11,x12,x13⟩:=HP.out.below hb2 (show w.heap.size<W0.heap.size from HL.out)
  cases r1
  ·go_wp2_with fail;go_ret;exact⟨rfl,J5 hb0 hb2⟩
  cases r2
  ·go_wp2_with (first | (with_reducible refine(cr _).mono ?_;rintro e w3 ⟨rfl,rfl⟩))
   go_ret;exact⟨rfl,J5 hb0 hb2⟩
  cases r3
  ·go_wp2_with (first | (with_reducible refine(cr _).mono ?_;rintro e w3 ⟨rfl,rfl⟩) | (with_reducible refine(ca _).mono ?_;rintro e w4 ⟨rfl,hb3⟩))
   go_ret;exact⟨rfl,J5 hb0 (J5 hb2 hb3)⟩
  go_wp2_with (first | (with_reducible refine(cr _).mono ?_;rintro e w3 ⟨rfl,rfl⟩))
  refine(ca _).mono ?_;rintro e w4 ⟨rfl,hb3⟩;clear x0 x1 x2 x3 x4 x5 x6 x7 x8 x9 x10 x11 x12 x13;have hb4:=J5 hb2 hb3
  obtain⟨x0,x1,x2,x3,x4,x5,x6,x7,x8,x9,x10,x11,x12,x13⟩:=HP.out.below hb4 (show w.heap.size<W0.heap.size from HL.out)
  clear hb3;go_wp2_with fail;refine(cb _).mono ?_;rintro e w5 ⟨rfl,hb5⟩;clear x0 x1 x2 x3 x4 x5 x6 x7 x8 x9 x10 x11 x12 x13 cr ca cb;go_wp2_with fail;go_ret
  exact⟨J8 (by simp),J5 hb0 (J5 hb4 hb5)⟩
 by_cases k3:f.k=3
 ·rw[Pr.right_3 k3 h4];have cs:=A0P d f ⟨f.k,0,0,f.a,Te.nil⟩ A c ps hu0 W0 (Below.refl _ _);have ca:=A0M f.a.k f.a.t f.a.c f.a.z f.a.n;obtain⟨r1,hr1⟩:∃r,r=Pr.same (.mk f ps) (.mk ⟨f.k,0,0,f.a,Te.nil⟩ []):=⟨_,rfl⟩;obtain⟨r3,hr3⟩:∃r,r=Te.right ⟨f.a.k,f.a.t,f.a.c,f.a.z,f.a.n⟩:=⟨_,rfl⟩;have hr3':Te.right f.a=r3:=hr3.symm;rw[←hr1]at cs ⊢;rw[←hr3]at ca;rw[hr3']
  have e1:(f.k == 1)=false:=by simp;omega
  have e2:(f.k == 2)=false:=by simp;omega
  have e3:(f.k == 3)=true:=by simpa using k3
  obtain⟨x0,x1,x2,x3,x4,x5,x6,x7,x8,x9,x10,x11,x12,x13⟩:=p0;clear hu hu0 ih l0 hW0 hr1 hr3 hr3' k1 k2 k3;go_enter Tryz.func121,Tryz.ntmps121
  go_upto_region 1 with(fail)
  rw[←HW.out];go_wp2_with fail;refine cs.mono ?_;rintro e w2 ⟨rfl,hb2⟩;clear cs x0 x1 x2 x3 x4 x5 x6 x7 x8 x9 x10 x11 x12 x13
  obtain⟨x0,x1,x2,x3,x4,x5,x6,x7,x8,x9,x10,x11,x12,x13⟩:=HP.out.below hb2 (show w.heap.size<W0.heap.size from HL.out)
  cases r1
  ·go_wp2_with fail;go_ret;exact⟨rfl,J5 hb0 hb2⟩
  go_wp2_with fail;refine(ca _).mono ?_;rintro e w4 ⟨rfl,hb3⟩;clear x0 x1 x2 x3 x4 x5 x6 x7 x8 x9 x10 x11 x12 x13;go_wp2_with fail;go_ret
  exact⟨J8 (by simp),J5 hb0 (J5 hb2 hb3)⟩
 have e1:(f.k == 1)=false:=by simp;omega
 have e2:(f.k == 2)=false:=by simp;omega
 have e3:(f.k == 3)=false:=by simp;omega
 have cj:=A6A d dp ih f (.slice A ps.length c) ps W0 hu0 (by omega)
 obtain⟨rj,hrj⟩:∃r,r=(Pr.fsame f ⟨f.k,0,0,Te.nil,Te.nil⟩&&Pr.rightAts ps (dp+1)):=⟨_,rfl⟩;rw[←hrj]at cj;have HJ:=J1 hrj
 by_cases k45:f.k=4∨f.k=5
 ·rw[Pr.right_45 k45 h4,←HJ.out];have HK:=J1 k45;obtain⟨x0,x1,x2,x3,x4,x5,x6,x7,x8,x9,x10,x11,x12,x13⟩:=p0;obtain⟨n,hn⟩:∃n,n=ps.length:=⟨_,rfl⟩;rw[←hn]at cj x13 hl HW HP HU ⊢
  by_cases hn4:n≤4
  ·have e6:decide (n≤4)=true:=by simpa using hn4
   rw[e6,Bool.true_and];clear hu hu0 ih l0 hW0 hrj k1 k2 k3 hn k45 e6
   rcases HK.out with k | k
   ·have e4:(f.k == 4)=true:=by simpa using k
    clear k;go_enter Tryz.func121,Tryz.ntmps121
    go_upto_region 1 with(fail)
    rw[←HW.out];go_wp2_with fail;refine cj.mono ?_;rintro e w4 ⟨rfl,hb3⟩;clear cj x0 x1 x2 x3 x4 x5 x6 x7 x8 x9 x10 x11 x12 x13;go_wp2_with fail;go_ret
    exact⟨J8 (by simp),J5 hb0 hb3⟩
   ·have e5:(f.k == 5)=true:=by simpa using k
    have e4:(f.k == 4)=false:=by simp;omega
    clear k;go_enter Tryz.func121,Tryz.ntmps121
    go_upto_region 1 with(fail)
    rw[←HW.out];go_wp2_with fail;refine cj.mono ?_;rintro e w4 ⟨rfl,hb3⟩;clear cj x0 x1 x2 x3 x4 x5 x6 x7 x8 x9 x10 x11 x12 x13;go_wp2_with fail;go_ret
    exact⟨J8 (by simp),J5 hb0 hb3⟩
  ·have e6:decide (n≤4)=false:=by simpa using hn4
   have e7:decide ((n:Int)≤4)=false:=by simp;omega
   rw[e6,Bool.false_and];clear hu hu0 ih l0 hW0 hrj k1 k2 k3 hn k45 cj
   rcases HK.out with k | k
   ·have e4:(f.k == 4)=true:=by simpa using k
    clear k;go_enter Tryz.func121,Tryz.ntmps121
    go_upto_region 1 with(fail)
    rw[←HW.out];go_wp2_with fail;go_ret;exact⟨rfl,hb0⟩
   ·have e5:(f.k == 5)=true:=by simpa using k
    have e4:(f.k == 4)=false:=by simp;omega
    clear k;go_enter Tryz.func121,Tryz.ntmps121
    go_upto_region 1 with(fail)
    rw[←HW.out];go_wp2_with fail;go_ret;exact⟨rfl,hb0⟩
 have e4:(f.k == 4)=false:=by simp;omega
 have e5:(f.k == 5)=false:=by simp;omega
 by_cases k6:f.k=6
 ·rw[Pr.right_6 k6 h4,←HJ.out]
  have e6:(f.k == 6)=true:=by simpa using k6
  obtain⟨x0,x1,x2,x3,x4,x5,x6,x7,x8,x9,x10,x11,x12,x13⟩:=p0;obtain⟨n,hn⟩:∃n,n=ps.length:=⟨_,rfl⟩;rw[←hn]at cj x13 hl HW HP HU ⊢
  by_cases hn1:n=1
  ·subst hn1;clear hu hu0 ih l0 hW0 hrj k1 k2 k3 k45 k6 hn;go_enter Tryz.func121,Tryz.ntmps121
   go_upto_region 1 with(fail)
   rw[←HW.out];go_wp2_with fail;refine cj.mono ?_;rintro e w4 ⟨rfl,hb3⟩;clear cj x0 x1 x2 x3 x4 x5 x6 x7 x8 x9 x10 x11 x12 x13;go_wp2_with fail;go_ret
   exact⟨J8 (by simp),J5 hb0 hb3⟩
  ·have e7:(n == 1)=false:=by simpa using hn1
   have e8:((n:Int) == 1)=false:=by simp;omega
   rw[e7,Bool.false_and];clear hu hu0 ih l0 hW0 hrj k1 k2 k3 k45 k6 hn cj;go_enter Tryz.func121,Tryz.ntmps121
   go_upto_region 1 with(fail)
   rw[←HW.out];go_wp2_with fail;go_ret;exact⟨rfl,hb0⟩
 rw[Pr.right_no (by omega)]
 have e6:(f.k == 6)=false:=by simp;omega
 obtain⟨x0,x1,x2,x3,x4,x5,x6,x7,x8,x9,x10,x11,x12,x13⟩:=p0;clear hu hu0 ih l0 hW0 hrj k1 k2 k3 k45 k6 cj;go_enter Tryz.func121,Tryz.ntmps121
 go_upto_region 1 with(fail)
 rw[←HW.out];go_wp2_with fail;go_ret;exact⟨rfl,hb0⟩
theorem A5m (d:Nat) (f:Pf) (u:Value) (ps:List Pd) (w:World) (hu:PsAt d w u ps) :
  Calls Tryz.prog 100 #[.agg #[f.k,f.u,f.o,f.a.k,f.a.t,f.a.c,f.a.z,f.a.n,f.b.k,f.b.t,f.b.c,f.b.z,f.b.n,u]] w fun e w'=>e=.returned (.bool (Pr.rightAt (.mk f ps) 1))∧Below w w w':=by
 obtain⟨A,c,rfl,hl⟩:=hu.form;obtain⟨W0,hW0⟩:∃W0,W0=w.alloc (Obj.cells #[f.k,f.u,f.o,f.a.k,f.a.t,f.a.c,f.a.z,f.a.n,f.b.k,f.b.t,f.b.c,f.b.z,f.b.n,.slice A ps.length c] 57):=⟨_,rfl⟩;obtain⟨l0,p0,hb0⟩:=V9 hW0
 have cs:=A6v d f _ ps 1 W0 (hu.below hb0 (C3 _)) (by omega)
 have HW:=J1 hW0;obtain⟨x0,x1,x2,x3,x4,x5,x6,x7,x8,x9,x10,x11,x12,x13⟩:=p0;clear hu hW0 l0;go_enter Tryz.func100,Tryz.ntmps100
 go_upto_region 1 with(fail)
 rw[←HW.out];go_wp2_with fail;refine cs.mono ?_;rintro e w2 ⟨rfl,hb2⟩;clear cs x0 x1 x2 x3 x4 x5 x6 x7 x8 x9 x10 x11 x12 x13;go_wp2_with fail;go_ret;exact⟨rfl,J5 hb0 hb2⟩
theorem A3b (s:Nat) (k t c:Int) (z:Bool) (n:Int) (w:World) (hs:s<18446744073709551616) :
  Calls Tryz.prog 125 #[.int .u64 (s:Int),.agg #[k,t,c,z,n]] w fun e w'=>e=.returned (.int .u64 ((s ||| Te.tables ⟨k,t,c,z,n⟩:Nat):Int))∧Below w w w':=by
 obtain⟨W0,hW0⟩:∃W0,W0=w.alloc (Obj.cells #[k,t,c,z,n] 55):=⟨_,rfl⟩;obtain⟨l0,hb0⟩:=L5 (cs:=[k,t,c,z,n]) hW0;have cs:=A1k k t c z n W0;have ho:=u64_or_nat s (Te.tables ⟨k,t,c,z,n⟩) hs (N6 _);generalize Te.tables ⟨k,t,c,z,n⟩=m at cs ho ⊢;have HO:=J1 ho;have HW:=J1 hW0;have z0:=l0.c 0 rfl;have z1:=l0.c 1 rfl;have z2:=l0.c 2 rfl;have z3:=l0.c 3 rfl;have z4:=l0.c 4 rfl;clear hW0 l0 ho hs;go_enter Tryz.func125,Tryz.ntmps125
 go_upto_region 1 with(fail)
 rw[←HW.out];go_wp2_with fail;refine cs.mono ?_;rintro e w2 ⟨rfl,hb2⟩;clear cs z0 z1 z2 z3 z4;go_wp2_with fail;go_ret;exact⟨M1 HO.out,J5 hb0 hb2⟩
theorem A6D (d:Nat):∀(f:Pf) (u:Value) (ps:List Pd) (s0:Nat) (w:World),PsAt d w u ps→s0<18446744073709551616 →
  Calls Tryz.prog 124 #[.agg #[f.k,f.u,f.o,f.a.k,f.a.t,f.a.c,f.a.z,f.a.n,f.b.k,f.b.t,f.b.c,f.b.z,f.b.n,u],.int .u64 (s0:Int),.func (.func 125) #[] #[]] w
   fun e w'=>e=.returned (.int .u64 ((s0 ||| Pr.tables (.mk f ps):Nat):Int))∧Below w w w':=by
 induction d using Nat.strongRecOn with
 | ind d ih =>
 intro f u ps s0 w hu hs0;obtain⟨A,c,rfl,hl⟩:=hu.form;obtain⟨W0,hW0⟩:∃W0,W0=w.alloc (Obj.cells #[f.k,f.u,f.o,f.a.k,f.a.t,f.a.c,f.a.z,f.a.n,f.b.k,f.b.t,f.b.c,f.b.z,f.b.n,.slice A ps.length c] 57):=⟨_,rfl⟩;obtain⟨l0,p0,hb0⟩:=V9 hW0;have HU:=J1 (hu.below hb0 (C3 _));have HW:=J1 hW0;have IH:=J1 ih;have HP:=J1 p0;have HL:=J1 l0.lt
 obtain⟨ta,hta⟩:∃ta,ta=s0 ||| Te.tables f.a:=⟨_,rfl⟩
 obtain⟨tb,htb⟩:∃tb,tb=ta ||| Te.tables f.b:=⟨_,rfl⟩
 have hta1:ta<18446744073709551616:=by rw[hta];exact A3h hs0 (N6 _)
 have htb1:tb<18446744073709551616:=by rw[htb];exact A3h hta1 (N6 _)
 have c1:=N7 (W0:=W0) fun W _=>A3b s0 f.a.k f.a.t f.a.c f.a.z f.a.n W hs0;have c2:=N7 (W0:=W0) fun W _=>A3b ta f.b.k f.b.t f.b.c f.b.z f.b.n W hta1;have e1:Te.tables ⟨f.a.k,f.a.t,f.a.c,f.a.z,f.a.n⟩=Te.tables f.a:=rfl;have e2:Te.tables ⟨f.b.k,f.b.t,f.b.c,f.b.z,f.b.n⟩=Te.tables f.b:=rfl;rw[e1,←hta]at c1;rw[e2,←htb]at c2
 have hTB:tb=s0 ||| (Te.tables f.a ||| Te.tables f.b):=by rw[htb,hta,Nat.or_assoc]
 have HT:=J1 hTB;have HT1:=J1 htb1
 have hT:Pr.tables (.mk f ps)=(Te.tables f.a ||| Te.tables f.b) ||| Pr.tabless ps:=Pr.tables_at (.mk f ps)
 have HR:=J1 (show s0 ||| Pr.tables (.mk f ps)=tb ||| Pr.tabless ps by rw[hT,hTB];simp only[Nat.or_assoc])
 have d3:=cell_regrown p0.c3;have d4:=cell_regrown p0.c4;have d5:=cell_regrown p0.c5;have d6:=cell_regrown p0.c6;have d7:=cell_regrown p0.c7;have d8:=cell_regrown p0.c8;have d9:=cell_regrown p0.c9;have d10:=cell_regrown p0.c10;have d11:=cell_regrown p0.c11;have d12:=cell_regrown p0.c12;clear hW0 ih hu l0 p0 hta htb e1 e2 hTB hta1 htb1 hT hs0;go_enter Tryz.func124,Tryz.ntmps124;go_wp2_with fail;rw[←HW.out]
 refine wp_region_quiet_below (by kernel_rfl) (by kernel_rfl) ?_
 repeat(go_big_quiet_step (with_reducible first | exact c1 _ _ | exact c2 _ _))
 refine wpQuiet_nil ?_;intro _ hw';obtain⟨⟨dq,osq⟩,hw''⟩:=hw';subst hw'';have hb1:Below W0 W0 (grow (redrawn W0 dq) osq):=below_regrown _ _ _;clear d3 d4 d5 d6 d7 d8 d9 d10 d11 d12 c1 c2;generalize grow (redrawn W0 dq) osq=w1 at hb1 ⊢
 have k13:=(HP.out.below hb1 (show w.heap.size<W0.heap.size from HL.out)).c13
 obtain⟨n,hn⟩:∃n,n=ps.length:=⟨_,rfl⟩;rw[←hn]at hl HU k13 ⊢;have HN:=J1 hn;clear hn;go_wp2_with fail;clear k13
 go_loopw [1,21] (fun s i wr=>∃q sv:Nat,q≤n∧i=.int .i64 q∧s=.int .u64 sv∧Hid (sv=tb ||| Pr.tabless (ps.take q))∧Below W0 W0 wr) (fun _ i _=>n-(intOf i).toNat)
 case atStart=>exact⟨0,tb,E3 _,rfl,rfl,J1 (by rw[F8,Pr.tabless,Nat.or_zero]),hb1⟩
 case round =>
  obtain⟨q,sv,hq,rfl,rfl,hsv,hb⟩:=hrel
  by_cases hlt:q<n
  ·obtain⟨p,gp⟩:∃p,ps[q]?=some p:=⟨ps[q]'(by have:=HN.out;omega),A8 _⟩
   have hu:=HU.out;rw[HN.out]at hu;obtain⟨e,b,o,s,v,he,rfl,_,hx⟩:=hu.at_ gp;obtain⟨hcell,hps⟩:=hx wr hb;obtain⟨A2,c2,rfl,_⟩:=hps.form;have hb3:Below W0 W0 (wr.alloc (Obj.cells #[p.f.k,p.f.u,p.f.o,p.f.a.k,p.f.a.t,p.f.a.c,p.f.a.z,p.f.a.n,p.f.b.k,p.f.b.t,p.f.b.c,p.f.b.z,p.f.b.n,.slice A2 p.ps.length c2] 57)):=J5 hb (J6 _ _)
   have hsl:sv<18446744073709551616:=by rw[hsv.out];exact A3h HT1.out (R4 _)
   have cs:=IH.out e he p.f _ p.ps sv _ ((hx _ hb3).2) hsl
   have ht:ps.take (q+1)=ps.take q++[p]:=by rw[D7,gp];rfl
   have hpe:Pd.mk p.f p.ps=p:=by cases p;rfl
   rw[hpe]at cs
   have H3:=J1 (show sv ||| Pr.tables p=tb ||| Pr.tabless (ps.take (q+1)) by rw[ht,Pr.tabless_snoc,hsv.out,Nat.or_assoc])
   obtain⟨x0,x1,x2,x3,x4,x5,x6,x7,x8,x9,x10,x11,x12,x13⟩:=hcell;clear gp hx hps ht hpe hsl hu;go_wp2_with fail;refine cs.mono ?_;rintro e w2 ⟨rfl,hb2⟩;have hb':=J5 hb3 hb2;clear cs x0 x1 x2 x3 x4 x5 x6 x7 x8 x9 x10 x11 x12 x13 hb3 hb2;go_wp2_with fail
   go_roundw
   case rel=>exact⟨q+1,_,by omega,by go_num,rfl,H3,hb'⟩
   case measure=>simp[intOf];omega
  ·have he:Hid (sv=s0 ||| Pr.tables (.mk f ps)):=J1 (by rw[HR.out,hsv.out,C7 (by have:=HN.out;omega)])
   go_wp2_with fail;go_ret
   exact⟨M1 (by rw[he.out]),J5 hb0 hb⟩
theorem A1D (d:Nat) (f:Pf) (u:Value) (ps:List Pd) (w:World) (hu:PsAt d w u ps) :
  Calls Tryz.prog 103 #[.agg #[f.k,f.u,f.o,f.a.k,f.a.t,f.a.c,f.a.z,f.a.n,f.b.k,f.b.t,f.b.c,f.b.z,f.b.n,u]] w fun e w'=>e=.returned (.int .u64 (Pr.tables (.mk f ps):Nat))∧Below w w w':=by
 obtain⟨A,c,rfl,hl⟩:=hu.form;obtain⟨W0,hW0⟩:∃W0,W0=w.alloc (Obj.cells #[f.k,f.u,f.o,f.a.k,f.a.t,f.a.c,f.a.z,f.a.n,f.b.k,f.b.t,f.b.c,f.b.z,f.b.n,.slice A ps.length c] 57):=⟨_,rfl⟩;obtain⟨l0,p0,hb0⟩:=V9 hW0
 have cs:=A6D d f _ ps 0 W0 (hu.below hb0 (C3 _)) (by decide)
 rw[Nat.zero_or]at cs;have HW:=J1 hW0;obtain⟨x0,x1,x2,x3,x4,x5,x6,x7,x8,x9,x10,x11,x12,x13⟩:=p0;clear hu hW0 l0;go_enter Tryz.func103,Tryz.ntmps103
 go_upto_region 1 with(fail)
 rw[←HW.out];go_wp2_with fail;refine cs.mono ?_;rintro e w2 ⟨rfl,hb2⟩;clear cs x0 x1 x2 x3 x4 x5 x6 x7 x8 x9 x10 x11 x12 x13;go_wp2_with fail;go_ret;exact⟨rfl,J5 hb0 hb2⟩
theorem A4J {w w':World} {l:List (Int × Int)} {e:Ending} (h:OwnPairs w l e w') (hl:l.length≤1000000):SomePairs w l e w':=by
 obtain⟨v,rfl,hown,hb⟩:=h;refine⟨v,rfl,?_,hb⟩
 rcases hown.2 with⟨rfl,hn⟩ | ⟨g,cap,cur,rfl,_,hg,_⟩
 ·refine⟨none,0,by rw[hn],hl,fun j x hj=>?_⟩
  rw[D6 hn]at hj
  simp at hj
 ·refine⟨some ⟨g,0,none⟩,cap,rfl,hl,fun j x hj=>⟨g,0,none,rfl,(D9.1 hg).1,?_⟩⟩;have hc:=hown.cells (g:=g) rfl
  have key:∀(l:List (Int × Int)) (j:Nat) (x:Int × Int),l[j]?=some x→(pairCells l)[j*2]?=some (.int .i64 x.1)∧(pairCells l)[j*2+1]?=some (.int .i64 x.2):=by
   intro l
   induction l with
   | nil=>intro j x h;simp at h
   | cons y r ih =>
    intro j x h
    cases j with
    | zero=>simp at h;subst h;exact⟨rfl,rfl⟩
    | succ j =>
     obtain⟨h1,h2⟩:=ih j x (by simpa using h)
     have e:pairCells (y::r)=.int .i64 y.1::.int .i64 y.2::pairCells r:=rfl
     rw[e,show(j+1)*2=j*2+2 by omega,show j*2+2+1=j*2+1+2 by omega]
     exact⟨by simpa using h1,by simpa using h2⟩
  obtain⟨h1,h2⟩:=key l j x hj;refine⟨hc _ _ h1,?_⟩;rw[A42];exact hc _ _ h2
theorem Pr.colss_app (l m:List Pd):Pr.colss (l++m)=Pr.colss l++Pr.colss m:=by
 induction l with
 | nil=>rw[F1,Pr.colss,F1]
 | cons p r ih=>rw[G8,Pr.colss,ih,Pr.colss,D4]
structure Step (base:Nat) (a w:World):Prop where
 below:Below base a w
 spare:∀g t cs,Lies a g t cs→t≠140→Lies w g t cs
theorem Step.refl (base:Nat) (a:World):Step base a a:=⟨Below.refl _ _,fun _ _ _ h _=>h⟩
theorem Step.trans {base:Nat} {a b c:World} (h:Step base a b) (k:Step base b c):Step base a c:=⟨h.below.trans k.below,fun g t cs l hne=>k.spare g t cs (h.spare g t cs l hne) hne⟩
theorem Step.drew {base:Nat} {a w:World} (h:Step base a w):Step base a w.drew:=⟨h.below.drew,fun g t cs l hne=>h.spare g t cs l hne⟩
theorem Step.alloc {base:Nat} {a w:World} (h:Step base a w) (hB:base≤w.heap.size) (o:Obj):Step base a (w.alloc o):=⟨h.below.alloc hB o,fun g t cs l hne=>(h.spare g t cs l hne).alloc o⟩
theorem Step.grown {base s n:Nat} {a w w':World} {v:Value} {xs:List Value} (h:Step base a w) (hB:base≤w.heap.size) (ho:w.ownsRow base 140 s v n xs) (hg:w.grownBy w' v.ownBlock):Step base a w':=by
 refine⟨h.below.grown hg hB (fun k hk=>(ho.lt k hk).1),fun g t cs l hne=>?_⟩;have l2:=h.spare g t cs l hne;refine(hg.block g l2.lt ?_).trans l2;intro hk
 rcases ho.2 with⟨hv,_⟩ | ⟨g',cap,cur,hv,_,hh,_⟩
 ·rw[hv]at hk;simp[Value.ownBlock]at hk
 ·rw[hv]at hk
  obtain rfl:g=g':=by simpa[Value.ownBlock]using hk
  unfold Lies at l2;rw[l2]at hh
  injection hh with hh
  injection hh with _ ht
  exact hne ht
theorem keepG {base:Nat} {W0 W:World} {g:Nat} {f:Pf} {u:Value} (h:Lies W0 g 57 (f.cells u)) (hs:Step base W0 W):(W.cell? ⟨g,3,none⟩=some (.int .i64 f.a.k)∧W.cell? ⟨g,4,none⟩=some (.int .i64 f.a.t)∧W.cell? ⟨g,5,none⟩=some (.int .i64 f.a.c)∧W.cell? ⟨g,6,none⟩=some (.bool f.a.z)∧W.cell? ⟨g,7,none⟩=some (.int .i64 f.a.n)∧W.cell? ⟨g,8,none⟩=some (.int .i64 f.b.k)∧W.cell? ⟨g,9,none⟩=some (.int .i64 f.b.t)∧W.cell? ⟨g,10,none⟩=some (.int .i64 f.b.c)∧W.cell? ⟨g,11,none⟩=some (.bool f.b.z)∧W.cell? ⟨g,12,none⟩=some (.int .i64 f.b.n))∧Step base W0 W:=by
 have p:=(hs.spare g _ _ h (by decide)).pd
 exact⟨⟨p.c3,p.c4,p.c5,p.c6,p.c7,p.c8,p.c9,p.c10,p.c11,p.c12⟩,hs⟩
theorem A3f (base:Nat) (v:Value) (N:Nat) (xs:List Value) (k t c:Int) (z:Bool) (n:Int) (w:World) (hown:w.ownsRow base 140 2 v N xs) (hB:base≤w.heap.size) (hN:N≤5000) :
  Calls Tryz.prog 123 #[v,.agg #[k,t,c,z,n]] w fun e w'=>∃v',e=.returned v'∧w'.ownsRow base 140 2 v' (N+(Te.cols ⟨k,t,c,z,n⟩).length) (xs++pairCells (Te.cols ⟨k,t,c,z,n⟩))∧Step base w w':=by
 obtain⟨i0,hi,hz0,hz1,hz2⟩:=info_parts Tryz.infoPair;obtain⟨W0,hW0⟩:∃W0,W0=w.alloc (Obj.cells #[k,t,c,z,n] 55):=⟨_,rfl⟩;obtain⟨l0,hb0⟩:=L5 (cs:=[k,t,c,z,n]) hW0
 have hs0:Step base w W0:=by rw[hW0];exact(Step.refl base w).alloc hB _
 have hown0:W0.ownsRow base 140 2 v N xs:=by rw[hW0];exact hown.alloc _
 have hB0:base≤W0.heap.size:=by rw[hW0,J2];omega
 have HW:=J1 hW0;have z0:=l0.c 0 rfl;have z1:=l0.c 1 rfl;have z2:=l0.c 2 rfl;clear hW0 l0 hb0 hown hB
 by_cases hk:k=1
 ·have e1:(k != 1)=false:=by simp[hk]
  have hL:Te.cols ⟨k,t,c,z,n⟩=[(t,c)]:=if_pos hk;rw[hL]
  have hcm:=J1 (show CameN (W0.alloc (Obj.cells #[t,c] 140)) 2 (.slice (some ⟨W0.heap.size,0,none⟩) 1 1) 1 [t,c] from CameN.new W0 140 2 1 [t,c] _ rfl rfl)
  have hone:=J1 (show ∀u∈([t,c]:List Value),u.oneCell'=true from X1 [(t,c)])
  have h63:=J1 (show N+1≤maxLen by unfold maxLen;omega)
  have hby:=J1 (show(N+1)*16≤140737488355328 by omega)
  have hbs:=J1 (show base≤(W0.alloc (Obj.cells #[t,c] 140)).heap.size by rw[J2];omega)
  have hoa:=J1 (hown0.alloc (Obj.cells #[t,c] 140));have hsa:=J1 (hs0.alloc hB0 (Obj.cells #[t,c] 140));clear hk hL hs0 hown0;go_enter Tryz.func123,Tryz.ntmps123
  go_upto_region 1 with(fail)
  rw[←HW.out]
  go_wp2_with (first
   | (at_builtin;refine M5 _ rfl _ _ 138 rfl base 140 i0 (.agg #[z9,z9]) 2 16 Tryz.underlying138 hi hz0 hz1 hz2 rfl (by decide) _ N _ rfl hoa.out _ 1 [t,c] rfl hcm.out hone.out h63.out hby.out hbs.out ?_))
  intro v1 w1 hown1 hgrow;have hs1:=hsa.out.grown hbs.out hoa.out hgrow;clear z0 z1 z2 hgrow;go_wp2_with fail;go_ret;exact⟨v1,rfl,hown1,hs1⟩
 ·have e1:(k != 1)=true:=by simpa using hk
  have hL:Te.cols ⟨k,t,c,z,n⟩=[]:=if_neg hk;rw[hL];clear hk hL;go_enter Tryz.func123,Tryz.ntmps123
  go_upto_region 1 with(fail)
  rw[←HW.out];go_wp2_with fail;go_ret
  exact⟨v,rfl,by simpa[pairCells]using hown0,hs0⟩
theorem A6E (d:Nat):∀(f:Pf) (u:Value) (ps:List Pd) (w0 w:World) (v0:Value) (N:Nat) (xs:List Value),PsAt d w0 u ps→Step w0.heap.size w0 w→w.ownsRow w0.heap.size 140 2 v0 N xs→N+(Pr.cols (.mk f ps)).length≤5000 →
  Calls Tryz.prog 122 #[.agg #[f.k,f.u,f.o,f.a.k,f.a.t,f.a.c,f.a.z,f.a.n,f.b.k,f.b.t,f.b.c,f.b.z,f.b.n,u],v0,.func (.func 123) #[] #[]] w
   fun e w'=>∃v',e=.returned v'∧w'.ownsRow w0.heap.size 140 2 v' (N+(Pr.cols (.mk f ps)).length) (xs++pairCells (Pr.cols (.mk f ps)))∧Step w0.heap.size w w':=by
 induction d using Nat.strongRecOn with
 | ind d ih =>
 intro f u ps w0 w v0 N xs hu hs0 hown hN;obtain⟨A,c,rfl,hl⟩:=hu.form;have hB:w0.heap.size≤w.heap.size:=hs0.below.size;obtain⟨W0,hW0⟩:∃W0,W0=w.alloc (Obj.cells #[f.k,f.u,f.o,f.a.k,f.a.t,f.a.c,f.a.z,f.a.n,f.b.k,f.b.t,f.b.c,f.b.z,f.b.n,.slice A ps.length c] 57):=⟨_,rfl⟩;obtain⟨l0,p0,hb0⟩:=V9 hW0
 have hs1:Step w0.heap.size w W0:=by rw[hW0];exact(Step.refl _ w).alloc hB _
 have hown0:W0.ownsRow w0.heap.size 140 2 v0 N xs:=by rw[hW0];exact hown.alloc _
 have hB0:w0.heap.size≤W0.heap.size:=D5 hB hb0.size;have HU:=J1 hu;have HW:=J1 hW0;have IH:=J1 ih;have L0:=J1 l0;have HS0:=J1 (hs0.trans hs1);have HS1:=J1 hs1;have HB0:=J1 hB0;have hC:Pr.cols (.mk f ps)=(Te.cols f.a++Te.cols f.b)++Pr.colss ps:=Pr.cols_at (.mk f ps);have HC:=J1 hC;have ha1:(Te.cols ⟨f.a.k,f.a.t,f.a.c,f.a.z,f.a.n⟩).length≤1:=Pr.te_cols_len _;have hb1:(Te.cols ⟨f.b.k,f.b.t,f.b.c,f.b.z,f.b.n⟩).length≤1:=Pr.te_cols_len _
 have hN1:N≤5000:=by omega
 have hN2:N+(Te.cols ⟨f.a.k,f.a.t,f.a.c,f.a.z,f.a.n⟩).length≤5000:=by
  rw[hC,C6,C6]at hN;have:(Te.cols f.a).length=(Te.cols ⟨f.a.k,f.a.t,f.a.c,f.a.z,f.a.n⟩).length:=rfl;omega
 have HN1:=J1 hN1;have HN2:=J1 hN2;have HNN:=J1 hN;have ca:=fun W (h:W.ownsRow w0.heap.size 140 2 v0 N xs) (hb:Step w0.heap.size W0 W)=>A3f w0.heap.size v0 N xs f.a.k f.a.t f.a.c f.a.z f.a.n W h (D5 hB0 hb.below.size) hN1;have cb:=fun v1 W (h:W.ownsRow w0.heap.size 140 2 v1 (N+(Te.cols ⟨f.a.k,f.a.t,f.a.c,f.a.z,f.a.n⟩).length) (xs++pairCells (Te.cols ⟨f.a.k,f.a.t,f.a.c,f.a.z,f.a.n⟩))) (hb:Step w0.heap.size W0 W)=>A3f w0.heap.size v1 _ _ f.b.k f.b.t f.b.c f.b.z f.b.n W h (D5 hB0 hb.below.size) hN2;have CA:=J1 ca;have CB:=J1 cb;have hS:Step w0.heap.size W0 W0:=Step.refl _ _;obtain⟨x0,x1,x2,x3,x4,x5,x6,x7,x8,x9,x10,x11,x12,x13⟩:=p0;clear hW0 ih hu l0 hs0 hs1 hown hB hC ha1 hb1 hN1 hN2 hN ca cb hb0 hB0 x0 x1 x2 x13;go_enter Tryz.func122,Tryz.ntmps122;go_wp2_with fail;rw[←HW.out]
 go_region_held3 (fun W=>(W.cell? ⟨w.heap.size,3,none⟩=some (.int .i64 f.a.k)∧W.cell? ⟨w.heap.size,4,none⟩=some (.int .i64 f.a.t)∧W.cell? ⟨w.heap.size,5,none⟩=some (.int .i64 f.a.c)∧W.cell? ⟨w.heap.size,6,none⟩=some (.bool f.a.z)∧W.cell? ⟨w.heap.size,7,none⟩=some (.int .i64 f.a.n)∧W.cell? ⟨w.heap.size,8,none⟩=some (.int .i64 f.b.k)∧W.cell? ⟨w.heap.size,9,none⟩=some (.int .i64 f.b.t)∧W.cell? ⟨w.heap.size,10,none⟩=some (.int .i64 f.b.c)∧W.cell? ⟨w.heap.size,11,none⟩=some (.bool f.b.z)∧W.cell? ⟨w.heap.size,12,none⟩=some (.int .i64 f.b.n))∧Step w0.heap.size W0 W) (first | (exact keepG L0.out (by first | assumption | exact Step.drew (by assumption))))
  (first
   | (go_at_call 123;(with_reducible refine(CA.out _ (by first | assumption | exact World.ownsRow.drew (by assumption)) (by first | assumption | exact Step.drew (by assumption))).mono ?_);rintro e w2 ⟨v2,rfl,hown2,hst2⟩;have hS2:=Step.trans (by first | assumption | exact Step.drew (by assumption)) hst2)
   | (go_at_call 123;(with_reducible refine(CB.out _ _ (by first | assumption | exact World.ownsRow.drew (by assumption)) (by first | assumption | exact Step.drew (by assumption))).mono ?_);rintro e w3 ⟨v3,rfl,hown3,hst3⟩;have hS3:=Step.trans (by first | assumption | exact Step.drew (by assumption)) hst3))
 obtain⟨L,hL⟩:∃L,L=Te.cols f.a++Te.cols f.b:=⟨_,rfl⟩
 have hC2:Pr.cols (.mk f ps)=L++Pr.colss ps:=by rw[HC.out,hL]
 have hown4:w3.ownsRow w0.heap.size 140 2 v3 (N+L.length) (xs++pairCells L):=by
  rw[hL,C6,V4,←D4,←Nat.add_assoc];exact hown3
 have HC2:=J1 hC2
 have k13:=(hS3.spare _ _ _ L0.out (by decide)).pd.c13
 obtain⟨n,hn⟩:∃n,n=ps.length:=⟨_,rfl⟩
 have hnn:n≤9223372036854775807:=by omega
 have hu0:=HU.out;rw[←hn]at hl hu0 k13 ⊢;have HU0:=J1 hu0;have HN:=J1 hn;have HO4:=J1 hown4;have H3:=J1 hS3;clear hn hL hC2 hown2 hown3 hown4 hst2 hst3 hS2 hS hown0 x3 x4 x5 x6 x7 x8 x9 x10 x11 x12 HU hu0 hS3 CA CB;go_wp2_with fail;clear k13
 go_loopw [1,21] (fun s i wr=>∃q:Nat,q≤n∧i=.int .i64 q∧wr.ownsRow w0.heap.size 140 2 s (N+(L++Pr.colss (ps.take q)).length) (xs++pairCells (L++Pr.colss (ps.take q)))∧Step w0.heap.size W0 wr) (fun _ i _=>n-(intOf i).toNat)
 case atStart=>exact⟨0,E3 _,rfl,by rw[F8,Pr.colss,F3];exact HO4.out,H3.out⟩
 case round =>
  obtain⟨q,hq,rfl,hown,hst⟩:=hrel
  by_cases hlt:q<n
  ·obtain⟨p,gp⟩:∃p,ps[q]?=some p:=⟨ps[q]'(by have:=HN.out;omega),A8 _⟩
   have hu:=HU0.out;rw[HN.out]at hu;obtain⟨e,b,o,s,v',he,rfl,_,hx⟩:=hu.at_ gp;have hwr:Below w0 w0 wr:=(HS0.out.trans hst).below;obtain⟨hcell,hps⟩:=hx wr hwr;obtain⟨A2,c2,rfl,_⟩:=hps.form;have hsq:Step w0.heap.size W0 (wr.alloc (Obj.cells #[p.f.k,p.f.u,p.f.o,p.f.a.k,p.f.a.t,p.f.a.c,p.f.a.z,p.f.a.n,p.f.b.k,p.f.b.t,p.f.b.c,p.f.b.z,p.f.b.n,.slice A2 p.ps.length c2] 57)):=hst.alloc hwr.size _;have hoq:(wr.alloc (Obj.cells #[p.f.k,p.f.u,p.f.o,p.f.a.k,p.f.a.t,p.f.a.c,p.f.a.z,p.f.a.n,p.f.b.k,p.f.b.t,p.f.b.c,p.f.b.z,p.f.b.n,.slice A2 p.ps.length c2] 57)).ownsRow w0.heap.size 140 2 _ _ _:=hown.alloc _
   have hlen:N+(L++Pr.colss (ps.take q)).length+(Pr.cols p).length≤5000:=by
    have h1:=HNN.out;rw[HC2.out]at h1
    have h2:(Pr.colss (ps.take (q+1))).length≤(Pr.colss ps).length:=by
     have:ps=ps.take (q+1)++ps.drop (q+1):=(List.take_append_drop _ _).symm
     have h3:Pr.colss ps=Pr.colss (ps.take (q+1))++Pr.colss (ps.drop (q+1)):=by
      conv=>lhs;rw[this,Pr.colss_app]
     rw[h3,C6];omega
    rw[Pr.colss_take gp,C6]at h2;rw[C6]at h1 ⊢;omega
   have cs:=IH.out e he p.f _ p.ps w0 _ _ _ _ ((hx w0 (Below.refl _ _)).2) (HS0.out.trans hsq) hoq (by rw[Pr.cols_mk];exact hlen)
   rw[Pr.cols_mk]at cs
   have HT:=J1 (show L++Pr.colss (ps.take (q+1))=(L++Pr.colss (ps.take q))++Pr.cols p by rw[Pr.colss_take gp,D4])
   obtain⟨M,hM⟩:∃M,M=L++Pr.colss (ps.take q):=⟨_,rfl⟩;rw[←hM]at cs;have HM:=J1 hM;obtain⟨x0,x1,x2,x3,x4,x5,x6,x7,x8,x9,x10,x11,x12,x13⟩:=hcell;clear gp hx hps hu hwr hown hoq hlen hM;go_wp2_with fail;refine cs.mono ?_;rintro e w2 ⟨v2,rfl,hown5,hst5⟩;have hst6:=hsq.trans hst5
   have hown6:w2.ownsRow w0.heap.size 140 2 v2 (N+(L++Pr.colss (ps.take (q+1))).length) (xs++pairCells (L++Pr.colss (ps.take (q+1)))):=by
    rw[HT.out,←HM.out,C6,V4,←D4,←Nat.add_assoc];exact hown5
   clear cs x0 x1 x2 x3 x4 x5 x6 x7 x8 x9 x10 x11 x12 x13 hst5 hsq hst hown5;go_wp2_with fail
   go_roundw
   case rel=>exact⟨q+1,by omega,by go_num,hown6,hst6⟩
   case measure=>simp[intOf];omega
  ·have he:Hid (L++Pr.colss (ps.take q)=Pr.cols (.mk f ps)):=J1 (by rw[HC2.out,C7 (by have:=HN.out;omega)])
   rw[he.out]at hown;have HO:=J1 hown;clear hown;go_wp2_with fail;go_ret;exact⟨_,rfl,HO.out,HS1.out.trans hst⟩
theorem A6J (d:Nat) (f:Pf) (u:Value) (ps:List Pd) (w:World) (hu:PsAt d w u ps) (hsz:Pr.sizes ps≤1000) :
  Calls Tryz.prog 101 #[.agg #[f.k,f.u,f.o,f.a.k,f.a.t,f.a.c,f.a.z,f.a.n,f.b.k,f.b.t,f.b.c,f.b.z,f.b.n,u]] w (SomePairs w (Pr.cols (.mk f ps))):=by
 have hlen:(Pr.cols (.mk f ps)).length≤2002:=by
  have:=Pr.cols_len (.mk f ps);rw[Pr.size]at this;omega
 obtain⟨A,c,rfl,hl⟩:=hu.form;obtain⟨W0,hW0⟩:∃W0,W0=w.alloc (Obj.cells #[f.k,f.u,f.o,f.a.k,f.a.t,f.a.c,f.a.z,f.a.n,f.b.k,f.b.t,f.b.c,f.b.z,f.b.n,.slice A ps.length c] 57):=⟨_,rfl⟩;obtain⟨l0,p0,hb0⟩:=V9 hW0
 have cs:=A6E d f _ ps W0 W0 (.slice none 0 0) 0 [] (hu.below hb0 (C3 _)) (Step.refl _ _) (World.ownsRow_nil _ _ _ _) (by omega)
 rw[G6,F1]at cs;obtain⟨M,hM⟩:∃M,M=Pr.cols (.mk f ps):=⟨_,rfl⟩;rw[←hM]at cs hlen ⊢;have HW:=J1 hW0;obtain⟨x0,x1,x2,x3,x4,x5,x6,x7,x8,x9,x10,x11,x12,x13⟩:=p0;clear hu hW0 l0 hM;go_enter Tryz.func101,Tryz.ntmps101
 go_upto_region 1 with(fail)
 rw[←HW.out];go_wp2_with fail;refine cs.mono ?_;rintro e w2 ⟨v2,rfl,hown2,hst2⟩;clear cs x0 x1 x2 x3 x4 x5 x6 x7 x8 x9 x10 x11 x12 x13;go_wp2_with fail;go_ret
 exact A4J ⟨v2,rfl,hown2.mono hb0.size,J5 hb0 hst2.below⟩ (by omega)
theorem A7D (a:Tr) (A:Option Addr) (m cu:Nat) (A':Option Addr) (m' cv:Nat) (c n:Nat) (w:World) (hm:m=a.ks.length) (hm':m'=a.cs.length) (hs:m≤9223372036854775807) (hs':m'≤9223372036854775807) (hc:c≤9223372036854775807) (_:n≤9223372036854775807) :
  Calls Tryz.prog 60 #[.agg #[a.k,a.t,.slice A m cu,.slice A' m' cv,a.h],c,n] w
   fun e w'=>e=.returned (.int .i64 (Ck.alone n a c))∧Below w w w':=by
 obtain⟨W0,hW0⟩:∃W0,W0=w.alloc (Obj.cells #[a.k,a.t,.slice A m cu,.slice A' m' cv,a.h] 26):=⟨_,rfl⟩;obtain⟨l0,⟨q0,q1,q2,q3,q4⟩,hb0⟩:=A0a (a:=a) (u:=.slice A m cu) (v:=.slice A' m' cv) hW0;have HW:=J1 hW0;obtain⟨r,hr⟩:∃r,r=Ck.alone n a c:=⟨_,rfl⟩;rw[←hr];unfold Ck.alone at hr;rw[←hm,←hm']at hr;clear hW0 l0 hm hm';obtain⟨k,hk⟩:∃k,k=a.k:=⟨_,rfl⟩;obtain⟨t,ht⟩:∃t,t=a.t:=⟨_,rfl⟩;obtain⟨h,hh⟩:∃h,h=a.h:=⟨_,rfl⟩;rw[←hk]at q0 HW hr ⊢;rw[←ht]at q1 HW hr ⊢;rw[←hh]at q4 HW hr ⊢;clear hk ht hh;have HB:=J1 hb0;clear hb0
 by_cases k0:k<0
 ·rw[if_pos (.inl k0)]at hr;subst hr;go_enter Tryz.func60,Tryz.ntmps60
  go_upto_region 1 with(fail)
  rw[←HW.out];go_wp2_with fail;go_ret;exact⟨rfl,HB.out⟩
 by_cases k4:4<k
 ·rw[if_pos (.inr (.inl k4))]at hr;subst hr;go_enter Tryz.func60,Tryz.ntmps60
  go_upto_region 1 with(fail)
  rw[←HW.out];go_wp2_with fail;go_ret;exact⟨rfl,HB.out⟩
 by_cases kz:k=0
 ·subst kz;cases h
  ·rw[if_neg (by simp)]at hr
   by_cases m0:m=0
   ·subst m0
    rw[if_neg (by simp)]at hr
    by_cases m1:m'=0
    ·subst m1
     by_cases c6:64<c
     ·rw[if_pos (by omega)]at hr
      subst hr;go_enter Tryz.func60,Tryz.ntmps60
      go_upto_region 1 with(fail)
      rw[←HW.out];go_wp2_with fail;go_ret;exact⟨rfl,HB.out⟩
     ·rw[if_neg (by omega)]at hr
      rw[if_pos rfl]at hr
      by_cases t0:t<0
      ·rw[if_pos (.inl t0)]at hr;subst hr;go_enter Tryz.func60,Tryz.ntmps60
       go_upto_region 1 with(fail)
       rw[←HW.out];go_wp2_with fail;go_ret;exact⟨rfl,HB.out⟩
      by_cases tn:(n:Int)≤t
      ·rw[if_pos (.inr tn)]at hr;subst hr;go_enter Tryz.func60,Tryz.ntmps60
       go_upto_region 1 with(fail)
       rw[←HW.out];go_wp2_with fail;go_ret;exact⟨rfl,HB.out⟩
      ·rw[if_neg (by omega)]at hr
       subst hr;go_enter Tryz.func60,Tryz.ntmps60
       go_upto_region 1 with(fail)
       rw[←HW.out];go_wp2_with fail;go_ret;exact⟨rfl,HB.out⟩
    ·rw[if_pos (by omega)]at hr
     subst hr
     have m1':((m':Int) == 0)=false:=by simpa using m1
     go_enter Tryz.func60,Tryz.ntmps60
     go_upto_region 1 with(fail)
     rw[←HW.out];go_wp2_with fail;go_ret;exact⟨rfl,HB.out⟩
   ·rw[if_pos (by simpa using m0)]at hr
    subst hr
    have m0':((m:Int) != 0)=true:=by simpa using m0
    go_enter Tryz.func60,Tryz.ntmps60
    go_upto_region 1 with(fail)
    rw[←HW.out];go_wp2_with fail;go_ret;exact⟨rfl,HB.out⟩
  ·rw[if_pos (.inr (.inr ⟨rfl,rfl⟩))]at hr;subst hr;go_enter Tryz.func60,Tryz.ntmps60
   go_upto_region 1 with(fail)
   rw[←HW.out];go_wp2_with fail;go_ret;exact⟨rfl,HB.out⟩
 ·have kz':(k == 0)=false:=by simpa using kz
  rw[if_neg (by omega),if_neg kz,if_neg kz]at hr
  by_cases m2:m=2
  ·subst m2
   rw[if_neg (by simp)]at hr
   by_cases m1:m'=0
   ·subst m1
    rw[if_pos (by omega)]at hr
    subst hr;go_enter Tryz.func60,Tryz.ntmps60
    go_upto_region 1 with(fail)
    rw[←HW.out];go_wp2_with fail;go_ret;exact⟨rfl,HB.out⟩
   ·have m1':((m':Int) == 0)=false:=by simpa using m1
    by_cases c6:64<c
    ·rw[if_pos (by omega)]at hr
     subst hr;go_enter Tryz.func60,Tryz.ntmps60
     go_upto_region 1 with(fail)
     rw[←HW.out];go_wp2_with fail;go_ret;exact⟨rfl,HB.out⟩
    ·rw[if_neg (by omega)]at hr
     by_cases t0:t<0
     ·rw[if_pos (.inl t0)]at hr;subst hr;go_enter Tryz.func60,Tryz.ntmps60
      go_upto_region 1 with(fail)
      rw[←HW.out];go_wp2_with fail;go_ret;exact⟨rfl,HB.out⟩
     by_cases tn:(1:Int)≤t
     ·rw[if_pos (.inr tn)]at hr;subst hr;go_enter Tryz.func60,Tryz.ntmps60
      go_upto_region 1 with(fail)
      rw[←HW.out];go_wp2_with fail;go_ret;exact⟨rfl,HB.out⟩
     ·rw[if_neg (by omega)]at hr
      subst hr;go_enter Tryz.func60,Tryz.ntmps60
      go_upto_region 1 with(fail)
      rw[←HW.out];go_wp2_with fail;go_ret;exact⟨rfl,HB.out⟩
  ·have m2':((m:Int) != 2)=true:=by simp;omega
   rw[if_pos (by simpa using m2)]at hr
   subst hr;go_enter Tryz.func60,Tryz.ntmps60
   go_upto_region 1 with(fail)
   rw[←HW.out];go_wp2_with fail;go_ret;exact⟨rfl,HB.out⟩
theorem A52 (b:Bool) (n:Int) (w:World) :
  Calls Tryz.prog 87 #[.agg #[b,n]] w fun e w'=>e=.returned (.bool (!Va.right b n))∧Below w w w':=by
 obtain⟨W0,hW0⟩:∃W0,W0=w.alloc (Obj.cells #[b,n] 53):=⟨_,rfl⟩;obtain⟨l0,hb0⟩:=B0k hW0;have cs:=A1A b n W0;have q0:=l0.c 0 rfl;have q1:=l0.c 1 rfl;have HW:=J1 hW0;obtain⟨r,hr⟩:∃r,r=Va.right b n:=⟨_,rfl⟩;rw[←hr]at cs ⊢;clear hW0 l0 hr;go_enter Tryz.func87,Tryz.ntmps87
 go_upto_region 1 with(fail)
 rw[←HW.out];go_wp2_with fail;refine cs.mono ?_;rintro e w1 ⟨rfl,hb1⟩;clear cs q0 q1;go_wp2_with fail;go_ret;exact⟨rfl,J5 hb0 hb1⟩
theorem A5C (v:Value) (l:List Vl) (w:World) (hv:RowAt w v l) (hl:l.length≤9223372036854775807) :
  Calls Tryz.prog 110 #[v,.func (.func 87) #[] #[]] w fun e w'=>(∃r:Int,e=.returned (.int .i64 r)∧decide (0≤r)=l.any (fun t=>!Va.right t.1 t.2))∧Below w w w':=by
 have HV:=J1 hv;obtain⟨A,c,rfl,_,_⟩:=hv;obtain⟨n,hn⟩:∃n,n=l.length:=⟨_,rfl⟩;have Hn:=J1 hn;rw[←hn]at hl ⊢;clear hn;go_enter Tryz.func110,Tryz.ntmps110
 go_wp2
 go_loopw [8] (fun i wr=>∃k:Nat,k≤n∧i=.int .i64 k∧Hid ((l.take k).any (fun t=>!Va.right t.1 t.2)=false)∧Below w w wr) (fun i _=>n-(intOf i).toNat)
 case atStart=>exact⟨0,E3 _,rfl,J1 (by simp),Below.refl _ _⟩
 case round =>
  obtain⟨k,hk,rfl,hno,hb⟩:=hrel
  by_cases hlt:k<n
  ·obtain⟨x,gx⟩:∃x,l[k]?=some x:=⟨l[k]'(by have:=Hn.out;omega),A8 _⟩
   obtain⟨b1,o1,p1,rfl,_,hcell⟩:=HV.out.pair gx;obtain⟨c0,c1⟩:=hcell wr hb
   have ht:l.take (k+1)=l.take k++[x]:=by rw[D7,gx];rfl
   have Gx:=J1 gx;clear gx hcell;obtain⟨r,hr⟩:∃r,r=(!Va.right x.1 x.2):=⟨_,rfl⟩
   have hs:Calls Tryz.prog 87 #[.agg #[x.1,x.2]] wr fun e w'=>e=.returned (.bool r)∧Below wr wr w':=by
    rw[hr];exact A52 x.1 x.2 wr
   have Hr:=J1 hr;have Ht:=J1 ht;clear hr ht
   cases r with
   | true =>
    have hyes:Hid (l.any (fun t=>!Va.right t.1 t.2)=true):=J1 (F4.2 ⟨x,C8 Gx.out,Hr.out.symm⟩);go_wp2_with fail;refine hs.mono ?_;rintro e w2 ⟨rfl,hb2⟩;go_wp2_with fail;go_ret
    exact⟨⟨k,rfl,by rw[hyes.out];simp⟩,J5 hb hb2⟩
   | false =>
    have hno2:Hid ((l.take (k+1)).any (fun t=>!Va.right t.1 t.2)=false):=J1 (by rw[Ht.out,List.any_append,hno.out];simpa using Hr.out)
    go_wp2_with fail;refine hs.mono ?_;rintro e w2 ⟨rfl,hb2⟩;go_wp2_with fail
    go_roundw
    case rel=>exact⟨k+1,by omega,by go_num,hno2,J5 hb hb2⟩
    case measure=>simp[intOf];omega
  ·have hend:Hid (l.any (fun t=>!Va.right t.1 t.2)=false):=J1 (by rw[←hno.out,C7 (by have:=Hn.out;omega)])
   go_wp2
   go_ret
   exact⟨⟨-1,rfl,by rw[hend.out];rfl⟩,hb⟩
theorem A2U (v:Value) (l:List Vl) (w:World) (hv:RowAt w v l) (hl:l.length≤9223372036854775807) :
  Calls Tryz.prog 86 #[v,.func (.func 87) #[] #[]] w fun e w'=>e=.returned (.bool (l.any (fun t=>!Va.right t.1 t.2)))∧Below w w w':=by
 have hi:=A5C v l w hv hl;obtain⟨A,c,rfl,_,_⟩:=hv;go_enter Tryz.func86,Tryz.ntmps86;go_wp2_with fail;refine hi.mono ?_;rintro e w' ⟨⟨r,rfl,hr⟩,hb⟩;go_wp2_with fail;go_ret
 exact⟨by rw[←hr];rfl,hb⟩
theorem A4X (r:List Vl) (n:Int):(decide ((r.length:Int)=n)&&r.all fun v=>Va.right v.1 v.2)=!(decide ((r.length:Int)≠n)||r.any fun v=>!Va.right v.1 v.2):=by
 rw[List.all_eq_not_any_not]
 by_cases h:(r.length:Int)=n <;> simp[h]
theorem A3E (v:Value) (rs:List (List Vl)) (m:Nat) (w:World) (hv:Rws w v rs) (hm:m≤100) :
  Calls Tryz.prog 45 #[v,(m:Int)] w fun e w'=>e=.returned (.bool (Ck.fits rs (m:Int)))∧Below w w w':=by
 have HV:=J1 hv;obtain⟨A,c,rfl,hc,_⟩:=hv.at_;obtain⟨n,hn⟩:∃n,n=rs.length:=⟨_,rfl⟩;have Hn:=J1 hn;rw[←hn]at hc ⊢;clear hn hv
 by_cases hbig:n≤1000
 ·have hf:Hid (Ck.fits rs (m:Int)=rs.all fun r=>decide ((r.length:Int)=m)&&r.all fun v=>Va.right v.1 v.2):=J1 (by
   unfold Ck.fits;rw[decide_eq_true (by have:=Hn.out;omega),Bool.true_and])
  go_enter Tryz.func45,Tryz.ntmps45;go_wp2_with fail
  go_loopw [12] (fun i wr=>∃k:Nat,k≤n∧i=.int .i64 k∧Hid ((rs.take k).all (fun r=>decide ((r.length:Int)=m)&&r.all fun v=>Va.right v.1 v.2)=true)∧Below w w wr) (fun i _=>n-(intOf i).toNat)
  case atStart=>exact⟨0,E3 _,rfl,J1 (by simp),Below.refl _ _⟩
  case round =>
   obtain⟨k,hk,rfl,hno,hb⟩:=hrel
   by_cases hlt:k<n
   ·obtain⟨r,gx⟩:∃r,rs[k]?=some r:=⟨rs[k]'(by have:=Hn.out;omega),A8 _⟩
    obtain⟨A',c',hA,_,hx⟩:=(HV.out.below hb (C3 _)).at_;obtain⟨b1,o1,p1,B,d,rfl,hcell,_,hrow⟩:=hx k r gx
    have hsl:A=some ⟨b1,o1,p1⟩:=by cases hA;rfl
    subst hsl
    have ht:rs.take (k+1)=rs.take k++[r]:=by rw[D7,gx];rfl
    have Gx:=J1 gx;have Ht:=J1 ht;clear gx hx hA ht
    by_cases hrm:r.length=m
    ·have cs:=A2U _ r wr hrow (by omega)
     rw[hrm]at hcell cs
     have hrm':(((m:Nat):Int) != (m:Int))=false:=by simp
     obtain⟨z,hz⟩:∃z,z=r.any (fun t=>!Va.right t.1 t.2):=⟨_,rfl⟩;rw[←hz]at cs;have Hz:=J1 hz;have Hrm:=J1 hrm;clear hz hrm hrow
     cases z with
     | true =>
      have hend:Hid (Ck.fits rs (m:Int)=false):=J1 (by
       rw[hf.out,Bool.eq_false_iff];intro h;have h2:=F6.1 h r (C8 Gx.out);rw[A4X,←Hz.out]at h2
       simp at h2)
      go_wp2_with fail;refine cs.mono ?_;rintro e w2 ⟨rfl,hb2⟩;go_wp2_with fail;go_ret
      exact⟨by rw[hend.out];rfl,J5 hb hb2⟩
     | false =>
      have hno2:Hid ((rs.take (k+1)).all (fun r=>decide ((r.length:Int)=m)&&r.all fun v=>Va.right v.1 v.2)=true):=J1 (by
       rw[Ht.out,List.all_append,hno.out,Bool.true_and,List.all_cons,List.all_nil,Bool.and_true,A4X,←Hz.out,Hrm.out]
       simp)
      go_wp2_with fail;refine cs.mono ?_;rintro e w2 ⟨rfl,hb2⟩;go_wp2_with fail
      go_roundw
      case rel=>exact⟨k+1,by omega,by go_num,hno2,J5 hb hb2⟩
      case measure=>simp[intOf];omega
    ·have hrm':((r.length:Int) != (m:Int))=true:=by simp;omega
     have hend:Hid (Ck.fits rs (m:Int)=false):=J1 (by
      rw[hf.out,Bool.eq_false_iff];intro h;have h2:=F6.1 h r (C8 Gx.out)
      rw[decide_eq_false (by omega)]at h2
      simp at h2)
     clear hrow;go_wp2_with fail;go_ret
     exact⟨by rw[hend.out];rfl,hb⟩
   ·have hend:Hid (Ck.fits rs (m:Int)=true):=J1 (by rw[hf.out,←hno.out,C7 (by have:=Hn.out;omega)])
    go_wp2_with fail;go_ret
    exact⟨by rw[hend.out];rfl,hb⟩
 ·have hf:Hid (Ck.fits rs (m:Int)=false):=J1 (by
   unfold Ck.fits;rw[decide_eq_false (by have:=Hn.out;omega),Bool.false_and])
  go_enter Tryz.func45,Tryz.ntmps45;go_wp2_with fail;go_ret
  exact⟨by rw[hf.out];rfl,Below.refl _ _⟩
end Go.Proofs.YtbddhkgbpjhhaaaGreatDoor
