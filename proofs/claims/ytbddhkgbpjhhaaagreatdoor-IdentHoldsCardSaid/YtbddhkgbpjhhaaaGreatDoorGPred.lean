/-
  LAID TOGETHER, BY PROGRAM, of: Pds, Preda, Predb, Predc, Predd, Prede, Teq, Predf, Predg, Predh.
-/
import Derived.Test.YtbddhkgbpjhhaaaGreatDoorGPlain
import Derived.Test.YtbddhkgbpjhhaaaGreatDoorGBase
import Derived.Test.YtbddhkgbpjhhaaaGreatDoorRows
import Derived.Test.YtbddhkgbpjhhaaaGreatDoorGTerms
import Derived.Test.YtbddhkgbpjhhaaaGreatDoorGLogs
import Derived.OwnWalk
import Derived.Laws.AppendOwnNone
import Derived.Deep.Cut
import Derived.Deep.Onto
import Derived.WalkKit
import Derived.WalkSpells
set_option maxHeartbeats 6400000
set_option maxRecDepth 100000
namespace Go.Proofs.YtbddhkgbpjhhaaaGreatDoor
open Go.RowKit
def Pf.cells (f:Pf) (u:Value):List Value:=[f.k,f.u,f.o,f.a.k,f.a.t,f.a.c,f.a.z,f.a.n,f.b.k,f.b.t,f.b.c,f.b.z,f.b.n,u]
structure PdCell (w:World) (X:Addr) (f:Pf) (u:Value):Prop where
 c0:w.cell? X=some (.int .i64 f.k)
 c1:w.cell? ⟨X.block,X.off+1,none⟩=some (.int .i64 f.u)
 c2:w.cell? ⟨X.block,X.off+2,none⟩=some (.int .i64 f.o)
 c3:w.cell? ⟨X.block,X.off+3,none⟩=some (.int .i64 f.a.k)
 c4:w.cell? ⟨X.block,X.off+4,none⟩=some (.int .i64 f.a.t)
 c5:w.cell? ⟨X.block,X.off+5,none⟩=some (.int .i64 f.a.c)
 c6:w.cell? ⟨X.block,X.off+6,none⟩=some (.bool f.a.z)
 c7:w.cell? ⟨X.block,X.off+7,none⟩=some (.int .i64 f.a.n)
 c8:w.cell? ⟨X.block,X.off+8,none⟩=some (.int .i64 f.b.k)
 c9:w.cell? ⟨X.block,X.off+9,none⟩=some (.int .i64 f.b.t)
 c10:w.cell? ⟨X.block,X.off+10,none⟩=some (.int .i64 f.b.c)
 c11:w.cell? ⟨X.block,X.off+11,none⟩=some (.bool f.b.z)
 c12:w.cell? ⟨X.block,X.off+12,none⟩=some (.int .i64 f.b.n)
 c13:w.cell? ⟨X.block,X.off+13,none⟩=some u
theorem PdCell.below {w w':World} {B:Nat} {X:Addr} {f:Pf} {u:Value} (h:PdCell w X f u) (hb:Below B w w') (hX:X.block<B):PdCell w' X f u :=
 have k:∀n,w'.cell? ⟨X.block,n,none⟩=w.cell? ⟨X.block,n,none⟩:=fun n=>hb.cell (p:=⟨X.block,n,none⟩) hX
 ⟨(hb.cell hX).trans h.c0,(k _).trans h.c1,(k _).trans h.c2,(k _).trans h.c3,(k _).trans h.c4,(k _).trans h.c5,(k _).trans h.c6,(k _).trans h.c7,(k _).trans h.c8,(k _).trans h.c9,(k _).trans h.c10,(k _).trans h.c11,(k _).trans h.c12,(k _).trans h.c13⟩
theorem Lies.pd {w:World} {g:Nat} {T:TypeId} {f:Pf} {u:Value} (h:Lies w g T (f.cells u)):PdCell w ⟨g,0,none⟩ f u :=
 ⟨h.c 0 rfl,h.c 1 rfl,h.c 2 rfl,h.c 3 rfl,h.c 4 rfl,h.c 5 rfl,h.c 6 rfl,h.c 7 rfl,h.c 8 rfl,h.c 9 rfl,h.c 10 rfl,h.c 11 rfl,h.c 12 rfl,h.c 13 rfl⟩
def PsAt:Nat→World→Value→List Pd→Prop
 | 0,_,v,l=>l=[]∧∃A c,v=.slice A 0 c
 | d+1,w,v,l=>∃A c,v=.slice A l.length c∧l.length≤9223372036854775807∧∀(j:Nat) (p:Pd),l[j]?=some p→∃b o s u,A=some ⟨b,o,s⟩∧b<w.heap.size∧PdCell w ((⟨b,o,s⟩:Addr).add (j*14)) p.f u∧PsAt d w u p.ps
theorem PsAt.form {d:Nat} {w:World} {v:Value} {l:List Pd} (h:PsAt d w v l):∃A c,v=.slice A l.length c∧l.length≤9223372036854775807:=by
 cases d with
 | zero=>obtain⟨rfl,A,c,rfl⟩:=h;exact⟨A,c,rfl,by simp⟩
 | succ d=>obtain⟨A,c,rfl,hl,_⟩:=h;exact⟨A,c,rfl,hl⟩
theorem PsAt.below {d:Nat}:∀{w w':World} {B:Nat} {v:Value} {l:List Pd},PsAt d w v l→Below B w w'→w.heap.size≤B→PsAt d w' v l:=by
 induction d with
 | zero=>intro w w' B v l h _ _;exact h
 | succ d ih =>
  intro w w' B v l h hb hB;obtain⟨A,c,hv,hc,hx⟩:=h;refine⟨A,c,hv,hc,fun j p hj=>?_⟩;obtain⟨b,o,s,u,hA,hlt,hcell,hp⟩:=hx j p hj
  exact⟨b,o,s,u,hA,C9 hlt hb.size,hcell.below hb (by rw[L7];show b<B;omega),ih hp hb hB⟩
theorem PsAt.more {d:Nat}:∀{w:World} {v:Value} {l:List Pd},PsAt d w v l→PsAt (d+1) w v l:=by
 induction d with
 | zero =>
  intro w v l h;obtain⟨rfl,A,c,rfl⟩:=h
  exact⟨A,c,rfl,by simp,fun j p hj=>by simp at hj⟩
 | succ d ih =>
  intro w v l h;obtain⟨A,c,hv,hc,hx⟩:=h;refine⟨A,c,hv,hc,fun j p hj=>?_⟩;obtain⟨b,o,s,u,hA,hlt,hcell,hp⟩:=hx j p hj;exact⟨b,o,s,u,hA,hlt,hcell,ih hp⟩
theorem PsAt.mono {d e:Nat} {w:World} {v:Value} {l:List Pd} (h:PsAt d w v l) (hd:d≤e):PsAt e w v l:=by
 induction hd with
 | refl=>exact h
 | step _ ih=>exact ih.more
theorem PsAt.at_ {d:Nat} {w:World} {A:Option Addr} {c:Nat} {l:List Pd} {j:Nat} {p:Pd} (h:PsAt d w (.slice A l.length c) l) (hj:l[j]?=some p) :
  ∃e b o s u,e<d∧A=some ⟨b,o,s⟩∧b<w.heap.size∧∀W,Below w w W→PdCell W ((⟨b,o,s⟩:Addr).add (j*14)) p.f u∧PsAt e W u p.ps:=by
 cases d with
 | zero=>obtain⟨rfl,_⟩:=h;simp at hj
 | succ d =>
  obtain⟨A',c',hv,_,hx⟩:=h;cases hv;obtain⟨b,o,s,u,hA,hlt,hcell,hp⟩:=hx j p hj
  exact⟨d,b,o,s,u,Nat.lt_succ_self d,hA,hlt,fun W hb=>⟨hcell.below hb (by rw[L7];exact hlt),hp.below hb (C3 _)⟩⟩
open Go.RowKit Go.Sort
theorem V9 {w W0:World} {T:TypeId} {f:Pf} {u:Value} (h:W0=w.alloc (Obj.cells (f.cells u).toArray T)):Lies W0 w.heap.size T (f.cells u)∧PdCell W0 ⟨w.heap.size,0,none⟩ f u∧Below w w W0:=by
 have l:Lies W0 w.heap.size T (f.cells u):=by rw[h];exact Lies.new _ _ _
 exact⟨l,l.pd,by rw[h];exact J6 _ _⟩
theorem N6 (x:Tm):Te.tables x<18446744073709551616:=by
 unfold Te.tables
 split
 ·exact St.ofN_lt _
 ·decide
theorem A3h {x y:Nat} (hx:x<18446744073709551616) (hy:y<18446744073709551616):x ||| y<18446744073709551616:=Nat.or_lt_two_pow (n:=64) hx hy
mutual
theorem A0b:∀p:Pd,Pr.tables p<18446744073709551616
 | .mk f ps=>by rw[Pr.tables];exact A3h (A3h (N6 _) (N6 _)) (R4 ps)
theorem R4:∀l:List Pd,Pr.tabless l<18446744073709551616
 | []=>by rw[Pr.tabless];decide
 | p::r=>by rw[Pr.tabless];exact A3h (A0b p) (R4 r)
end
theorem A28 (d:Nat):∀(f:Pf) (u:Value) (ps:List Pd) (w:World),PsAt d w u ps →
  Calls Tryz.prog 132 #[.agg #[f.k,f.u,f.o,f.a.k,f.a.t,f.a.c,f.a.z,f.a.n,f.b.k,f.b.t,f.b.c,f.b.z,f.b.n,u]] w
   fun e w'=>e=.returned (.int .u64 (Pr.tables (.mk f ps):Nat))∧Below w w w':=by
 induction d using Nat.strongRecOn with
 | ind d ih =>
 intro f u ps w hu;obtain⟨W0,hW0⟩:∃W0,W0=w.alloc (Obj.cells #[f.k,f.u,f.o,f.a.k,f.a.t,f.a.c,f.a.z,f.a.n,f.b.k,f.b.t,f.b.c,f.b.z,f.b.n,u] 57):=⟨_,rfl⟩;obtain⟨l0,p0,hb0⟩:=V9 hW0;have HU:=J1 (hu.below hb0 (C3 _));obtain⟨A,c,rfl,hl⟩:=hu.form;have HW:=J1 hW0;have IH:=J1 ih;have HP:=J1 p0;have HL:=J1 l0.lt;have d3:=cell_regrown p0.c3;have d4:=cell_regrown p0.c4;have d5:=cell_regrown p0.c5;have d6:=cell_regrown p0.c6;have d7:=cell_regrown p0.c7;have d8:=cell_regrown p0.c8;have d9:=cell_regrown p0.c9;have d10:=cell_regrown p0.c10;have d11:=cell_regrown p0.c11;have d12:=cell_regrown p0.c12;have c1:=N7 (W0:=W0) fun W _=>A00 f.a.k f.a.t f.a.c f.a.z f.a.n W;have c2:=N7 (W0:=W0) fun W _=>A00 f.b.k f.b.t f.b.c f.b.z f.b.n W;clear hW0 ih hu l0 p0;go_enter Tryz.func132,Tryz.ntmps132;go_wp2_with fail;rw[←HW.out]
 refine wp_region_quiet_below (by kernel_rfl) (by kernel_rfl) ?_
 repeat(go_big_quiet_step (with_reducible first | exact c1 _ _ | exact c2 _ _))
 refine wpQuiet_nil ?_;intro _ hw';obtain⟨⟨dq,osq⟩,hw''⟩:=hw';subst hw'';have hb1:Below W0 W0 (grow (redrawn W0 dq) osq):=below_regrown _ _ _;clear d3 d4 d5 d6 d7 d8 d9 d10 d11 d12 c1 c2;generalize grow (redrawn W0 dq) osq=w1 at hb1 ⊢;go_wp2_with fail;have ho:=u64_or_nat (Te.tables f.a) (Te.tables f.b) (N6 _) (N6 _);obtain⟨n,hn⟩:∃n,n=ps.length:=⟨_,rfl⟩;rw[←hn]at hl HU ⊢;have HN:=J1 hn;have HO:=J1 ho;clear hn ho
 go_loopw [3,4] (fun s i wr=>∃q sv:Nat,q≤n∧i=.int .i64 q∧s=.int .u64 sv∧Hid (sv=(Te.tables f.a ||| Te.tables f.b) ||| Pr.tabless (ps.take q))∧Below W0 W0 wr) (fun _ i _=>n-(intOf i).toNat)
 case atStart=>exact⟨0,_,E3 _,rfl,by rw[HO.out],J1 (by rw[F8,Pr.tabless,Nat.or_zero]),hb1⟩
 case round =>
  obtain⟨q,sv,hq,rfl,rfl,hsv,hb⟩:=hrel
  have pr:=HP.out.below hb (show w.heap.size<W0.heap.size from HL.out)
  have k13:=pr.c13;rw[←HN.out]at k13
  by_cases hlt:q<n
  ·obtain⟨p,gp⟩:∃p,ps[q]?=some p:=⟨ps[q]'(by have:=HN.out;omega),A8 _⟩
   have hu:=HU.out;rw[HN.out]at hu;obtain⟨e,b,o,s,v,he,rfl,_,hx⟩:=hu.at_ gp;obtain⟨hcell,hps⟩:=hx wr hb;have cs:=IH.out e he p.f v p.ps wr hps
   have ht:ps.take (q+1)=ps.take q++[p]:=by rw[D7,gp];rfl
   have hpe:Pd.mk p.f p.ps=p:=by cases p;rfl
   rw[hpe]at cs
   have hsl:sv<18446744073709551616:=by rw[hsv.out];exact A3h (A3h (N6 _) (N6 _)) (R4 _)
   have H2:=J1 (u64_or_nat sv (Pr.tables p) hsl (A0b p))
   have H3:=J1 (show sv ||| Pr.tables p=(Te.tables f.a ||| Te.tables f.b) ||| Pr.tabless (ps.take (q+1)) by rw[ht,Pr.tabless_snoc,hsv.out,Nat.or_assoc])
   obtain⟨q0,q1,q2,q3,q4,q5,q6,q7,q8,q9,q10,q11,q12,q13⟩:=hcell;clear gp hx hps ht hpe hsl hu pr;go_wp2_with fail;refine cs.mono ?_;rintro e w2 ⟨rfl,hb2⟩;have hb':=J5 hb hb2;clear cs q0 q1 q2 q3 q4 q5 q6 q7 q8 q9 q10 q11 q12 q13 k13;go_wp2_with fail
   go_roundw
   case rel=>exact⟨q+1,_,by omega,by go_num,by rw[H2.out],H3,hb'⟩
   case measure=>simp[intOf];omega
  ·have he:Hid (sv=Pr.tables (.mk f ps)):=J1 (by rw[hsv.out,C7 (by have:=HN.out;omega),Pr.tables_at];rfl)
   clear pr;go_wp2_with fail;go_ret
   exact⟨M1 (by rw[he.out]),J5 hb0 hb⟩
theorem A5i (d:Nat):∀(f:Pf) (u:Value) (ps:List Pd) (M:Int) (w:World),PsAt d w u ps→1≤M→M≤1000000 →
  Calls Tryz.prog 66 #[.agg #[f.k,f.u,f.o,f.a.k,f.a.t,f.a.c,f.a.z,f.a.n,f.b.k,f.b.t,f.b.c,f.b.z,f.b.n,u],M] w
   fun e w'=>e=.returned (.int .i64 (min (Pr.size (.mk f ps):Int) M))∧Below w w w':=by
 induction d using Nat.strongRecOn with
 | ind d ih =>
 intro f u ps M w hu hM1 hM2;obtain⟨W0,hW0⟩:∃W0,W0=w.alloc (Obj.cells #[f.k,f.u,f.o,f.a.k,f.a.t,f.a.c,f.a.z,f.a.n,f.b.k,f.b.t,f.b.c,f.b.z,f.b.n,u] 57):=⟨_,rfl⟩;obtain⟨l0,p0,hb0⟩:=V9 hW0;have HU:=J1 (hu.below hb0 (C3 _));obtain⟨A,c,rfl,hl⟩:=hu.form;have HW:=J1 hW0;have IH:=J1 ih;have HP:=J1 p0;have HL:=J1 l0.lt;obtain⟨n,hn⟩:∃n,n=ps.length:=⟨_,rfl⟩;rw[←hn]at hl HU HP HW ⊢;have HN:=J1 hn;clear hW0 ih hu l0 p0 hn;go_enter Tryz.func66,Tryz.ntmps66;go_wp2_with fail;rw[←HW.out]
 go_loopw [5,6] (fun s i wr=>∃(q:Nat) (sv:Int),q≤n∧i=.int .i64 q∧s=.int .i64 sv∧1≤sv∧sv≤M∧Hid (sv=min (1+(Pr.sizes (ps.take q):Int)) M)∧Below W0 W0 wr) (fun _ i _=>n-(intOf i).toNat)
 case atStart=>exact⟨0,1,E3 _,rfl,rfl,by omega,by omega,J1 (by rw[F8,Pr.sizes];omega),Below.refl _ _⟩
 case round =>
  obtain⟨q,sv,hq,rfl,rfl,hs1,hs2,hsv,hb⟩:=hrel
  have k13:=(HP.out.below hb (show w.heap.size<W0.heap.size from HL.out)).c13
  by_cases hlt:q<n
  ·by_cases hsm:sv<M
   ·obtain⟨p,gp⟩:∃p,ps[q]?=some p:=⟨ps[q]'(by have:=HN.out;omega),A8 _⟩
    have hu:=HU.out;rw[HN.out]at hu;obtain⟨e,b,o,s,v,he,rfl,_,hx⟩:=hu.at_ gp;obtain⟨hcell,hps⟩:=hx wr hb
    have cs:=IH.out e he p.f v p.ps (M-sv) wr hps (by omega) (by omega)
    have ht:ps.take (q+1)=ps.take q++[p]:=by rw[D7,gp];rfl
    have hpe:Pd.mk p.f p.ps=p:=by cases p;rfl
    rw[hpe]at cs;have hp1:=Pr.size_pos p
    have hS:Pr.sizes (ps.take (q+1))=Pr.sizes (ps.take q)+Pr.size p:=by rw[ht,Pr.sizes_snoc]
    obtain⟨x,hx1⟩:∃x,x=min (Pr.size p:Int) (M-sv):=⟨_,rfl⟩
    have hx2:1≤x:=by omega
    have hx3:x≤M-sv:=by omega
    have H3:Hid (sv+x=min (1+(Pr.sizes (ps.take (q+1)):Int)) M):=J1 (by have:=hsv.out;omega)
    rw[←hx1]at cs;obtain⟨q0,q1,q2,q3,q4,q5,q6,q7,q8,q9,q10,q11,q12,q13⟩:=hcell;clear gp hx hps ht hpe hu hp1 hS hx1;go_wp2_with fail;refine cs.mono ?_;rintro e w2 ⟨rfl,hb2⟩;have hb':=J5 hb hb2;clear cs q0 q1 q2 q3 q4 q5 q6 q7 q8 q9 q10 q11 q12 q13 k13;go_wp2_with fail
    go_roundw
    case rel=>exact⟨q+1,sv+x,by omega,by go_num,rfl,by omega,by omega,H3,hb'⟩
    case measure=>simp[intOf];omega
   ·have hx:(ps.take q).length≤ps.length:=by rw[E4];omega
    have hle:Pr.sizes (ps.take q)≤Pr.sizes ps:=Pr.sizes_take q ps
    have he:Hid (sv=min (Pr.size (.mk f ps):Int) M):=J1 (by rw[Pr.size_at];have:=hsv.out;show sv=min ((1+Pr.sizes ps:Nat):Int) M;omega)
    clear hx hle;go_wp2_with fail;go_ret;exact⟨M1 he.out,J5 hb0 hb⟩
  ·have he:Hid (sv=min (Pr.size (.mk f ps):Int) M):=J1 (by
    rw[Pr.size_at];have h:=hsv.out
    rw[C7 (by have:=HN.out;omega)]at h
    show sv=min ((1+Pr.sizes ps:Nat):Int) M
    omega)
   go_wp2_with fail;go_ret;exact⟨M1 he.out,J5 hb0 hb⟩
theorem A4H {w W0:World} {T:TypeId} {f g:Pf} {u v:Value} (h:W0=(w.alloc (Obj.cells (f.cells u).toArray T)).alloc (Obj.cells (g.cells v).toArray T)) :
  PdCell W0 ⟨w.heap.size,0,none⟩ f u∧PdCell W0 ⟨w.heap.size+1,0,none⟩ g v∧Below w w W0∧w.heap.size+1<W0.heap.size:=by
 obtain⟨l1,l2,hb⟩:=Q0 (cs:=f.cells u) (ds:=g.cells v) h;exact⟨l1.pd,l2.pd,hb,l2.lt⟩
theorem A1G (w:World) (e:TypeId) (s base:Nat) (hb:base≤w.heap.size) (g:Nat) (hg:w.heap.size=g):(w.alloc (.cells #[] e)).ownsRow base e s (.slice (some ⟨g,0,none⟩) 0 0) 0 []:=by
 subst hg;exact World.ownsRow_made w #[] 0 hb (by decide) (by simp)
theorem A0m {w w':World} {base:Nat} {e:TypeId} {s:Nat} {v:Value} {n:Nat} {xs:List Value} (h:w.ownsRow base e s v n xs) (hb:Below w w w'):w'.ownsRow base e s v n xs:=by
 refine⟨h.1,?_⟩
 rcases h.2 with hn | ⟨g,cap,cur,rfl,h1,hg,rest⟩
 ·exact .inl hn
 ·exact .inr ⟨g,cap,cur,rfl,h1,(hb.block g (D9.1 hg).1).trans hg,rest⟩
def CameN (w:World) (size:Nat) (u:Value) (m:Nat) (news:List Value):Prop :=
 (u=.slice none 0 0∧m=0∧news=[])∨∃b c,u=.slice (some b) m c∧news.length=m*size∧∀(j:Nat) (x:Value),news[j]?=some x→w.cell? (b.add j)=some x
theorem CameN.own {w:World} {base:Nat} {e:TypeId} {size:Nat} {v:Value} {n:Nat} {xs:List Value} (h:w.ownsRow base e size v n xs):CameN w size v n xs:=by
 rcases h.2 with⟨hv,hn⟩ | ⟨g,cap,cur,rfl,_⟩
 ·exact .inl ⟨hv,hn,D6 (by rw[h.1,hn,Nat.zero_mul])⟩
 ·exact .inr ⟨_,cap,rfl,h.1,fun j x hx=>h.cells (g:=g) rfl j x hx⟩
theorem CameN.new (w:World) (t:TypeId) (size m:Nat) (xs:List Value) (g:Nat) (hg:w.heap.size=g) (hl:xs.length=m*size):CameN (w.alloc (.cells xs.toArray t)) size (.slice (some ⟨g,0,none⟩) m m) m xs:=by
 subst hg;refine .inr ⟨_,_,rfl,hl,fun j x hx=>?_⟩;obtain⟨A,c,hv,_,h⟩:=Sl.new w t xs;cases hv;obtain⟨b,o,p,hA,_,hc⟩:=h j x hx;cases hA;exact hc
theorem M5 {P:Program} (w:World) {ops:Array Oper} {rest:List Oper} {o:Oper} {a:Act} {Q:Exit→Act→World→Prop} (hgd:o.guard=none) (s x:Operand) (t:TypeId)
  (ho:o.op=.call { callee:=.builtin .append,args:=#[s,x],argTypes:=#[t,t] })
  (base:Nat) (e:TypeId) (i:TypeInfo) (z:Value) (size bytes:Nat) (ht:P.underlying t=some (.slice e)) (hi:P.info? e=some i) (hz:i.zero=some z)
  (hsize:i.size=size) (hby:i.bytes=bytes) (hzs:z.cells.size=size) (hs0:0<size)
  (v:Value) (n:Nat) (xs:List Value) (hs:a.eval s=v) (hown:w.ownsRow base e size v n xs)
  (u:Value) (m:Nat) (news:List Value) (hx:a.eval x=u) (hu:CameN w size u m news) (h1:∀u∈news,u.oneCell'=true)
  (h63:n+m≤maxLen) (hbytes:(n+m)*bytes≤140737488355328) (hbase:base≤w.heap.size)
  (h:∀v' w',w'.ownsRow base e size v' (n+m) (xs++news)→w.grownBy w' v.ownBlock→wpList P ops Q rest (a.put o.dst v') w'):wpList P ops Q (o::rest) a w:=by
 rcases hu with⟨rfl,rfl,rfl⟩ | ⟨b,c,rfl,hl,hc⟩
 ·refine wpList_append_own_none hgd s x t ho base e i size ht hi v n xs hs hown hx ?_
  exact h v w (by simpa using hown) ⟨rfl,rfl,rfl,C3 _,fun _ _ _=>rfl⟩
 ·exact wpList_append_own w hgd s x t ho base e i z size bytes ht hi hz hsize hby hzs hs0 v n xs hs hown b m c news hx hl hc h1 h63 hbytes hbase fun v' w' h2 h3 _=>h v' w' h2 h3
def pairCells (l:List (Int × Int)):List Value:=l.flatMap fun x=>[x.1,x.2]
theorem V4 (l m:List (Int × Int)):pairCells (l++m)=pairCells l++pairCells m:=by simp[pairCells]
theorem X1 (l:List (Int × Int)):∀u∈pairCells l,u.oneCell'=true:=by
 intro u hu;simp only[pairCells,List.mem_flatMap]at hu;obtain⟨x,_,hx⟩:=hu
 simp at hx
 rcases hx with rfl | rfl <;> rfl
def OwnPairs (w:World) (l:List (Int × Int)) (e:Ending) (w':World):Prop :=
 ∃v,e=.returned v∧w'.ownsRow w.heap.size 140 2 v l.length (pairCells l)∧Below w w w'
theorem Tryz.infoPair:(Tryz.prog.info? 140).map (fun i=>(i.zero,i.size,i.bytes))=some (some (.agg #[z9,z9]),2,16):=by kernel_rfl
theorem A5j (d:Nat):∀(f:Pf) (u:Value) (ps:List Pd) (w:World),PsAt d w u ps→Pr.sizes ps≤1000 →
  Calls Tryz.prog 130 #[.agg #[f.k,f.u,f.o,f.a.k,f.a.t,f.a.c,f.a.z,f.a.n,f.b.k,f.b.t,f.b.c,f.b.z,f.b.n,u]] w (OwnPairs w (Pr.cols (.mk f ps))):=by
 induction d using Nat.strongRecOn with
 | ind d ih =>
 intro f u ps w hu hsz;obtain⟨i0,hi,hz0,hz1,hz2⟩:=info_parts Tryz.infoPair;obtain⟨W0,hW0⟩:∃W0,W0=w.alloc (Obj.cells #[f.k,f.u,f.o,f.a.k,f.a.t,f.a.c,f.a.z,f.a.n,f.b.k,f.b.t,f.b.c,f.b.z,f.b.n,u] 57):=⟨_,rfl⟩;obtain⟨l0,p0,hb0⟩:=V9 hW0;have HU:=J1 (hu.below hb0 (C3 _));obtain⟨A,c,rfl,hl⟩:=hu.form;have hn1:=Pr.sizes_length ps;have HW:=J1 hW0;have IH:=J1 ih;have HP:=J1 p0;have HL:=J1 l0.lt;have HZ:=J1 hsz;obtain⟨n,hn⟩:∃n,n=ps.length:=⟨_,rfl⟩;rw[←hn]at hl HU HP HW hn1 ⊢
 have hn2:n≤1000:=by omega
 have HN:=J1 hn
 have how:=A1G W0 140 2 W0.heap.size (C3 _) (w.heap.size+1) (by rw[hW0,J2])
 have hb:Below W0 W0 (W0.alloc (Obj.cells #[] 140)):=J6 _ _;have HB0:=J1 hb0;have hcl:=Pr.cols_at (.mk f ps)
 have HC:=J1 (show Pr.cols (.mk f ps)=(Te.cols f.a++Te.cols f.b)++Pr.colss ps from hcl)
 have HSZ:=J1 (show W0.heap.size=w.heap.size+1 by rw[hW0,J2])
 clear hW0 ih hu l0 p0 hn hsz hn1 hcl hb0;go_enter Tryz.func130,Tryz.ntmps130;have hown:(W0.alloc (Obj.cells #[] 140)).ownsRow W0.heap.size 140 2 (.slice (some ⟨w.heap.size+1,0,none⟩) 0 0) 0 (pairCells []):=how
 have hlen:(0:Nat)≤1:=by omega
 have z3:=(HP.out.below hb (show w.heap.size<W0.heap.size from HL.out)).c3
 rw[HW.out]at z3
 go_upto_if 9 with(fail)
 rw[←HW.out];clear z3
 go_cut [3] from 5 (fun s wr=>wr.ownsRow W0.heap.size 140 2 s (Te.cols f.a).length (pairCells (Te.cols f.a))∧Below W0 W0 wr)
 case first =>
  obtain⟨k0,k1,k2,k3,k4,k5,k6,k7,k8,k9,k10,k11,k12,k13⟩:=HP.out.below hb (show w.heap.size<W0.heap.size from HL.out)
  by_cases h:f.a.k=1
  ·have e1:(f.a.k == 1)=true:=by simpa using h
   have hL:=J1 (show Te.cols f.a=[]++[(f.a.t,f.a.c)] by simp[Te.cols,h])
   have hcm:=J1 (show CameN ((W0.alloc (Obj.cells #[] 140)).alloc (Obj.cells #[f.a.t,f.a.c] 140)) 2 (.slice (some ⟨W0.heap.size+1,0,none⟩) 1 1) 1 [f.a.t,f.a.c] from CameN.new (W0.alloc (Obj.cells #[] 140)) 140 2 1 [f.a.t,f.a.c] _ (by rw[J2]) rfl)
   have hone:=J1 (show ∀u∈([f.a.t,f.a.c]:List Value),u.oneCell'=true from X1 [(f.a.t,f.a.c)])
   have h63:=J1 (show 0+1≤maxLen by unfold maxLen;omega)
   have hby:=J1 (show(0+1)*16≤140737488355328 by omega)
   have hbs:=J1 (show W0.heap.size≤((W0.alloc (Obj.cells #[] 140)).alloc (Obj.cells #[f.a.t,f.a.c] 140)).heap.size by have:=hb.size;rw[J2];omega)
   have hoa:=J1 (hown.alloc (Obj.cells #[f.a.t,f.a.c] 140));clear h
   go_wp2_with (first
    | (at_builtin;refine M5 _ rfl _ _ 138 rfl W0.heap.size 140 i0 (.agg #[z9,z9]) 2 16 Tryz.underlying138 hi hz0 hz1 hz2 rfl (by decide) _ 0 _ rfl hoa.out _ 1 [f.a.t,f.a.c] rfl hcm.out hone.out h63.out hby.out hbs.out ?_))
   intro v1 w1 hown1 hgrow;have hb1:Below W0 W0 w1:=(hb.alloc hb.size _).grown hgrow hbs.out (fun k hk=>(hown.lt k hk).1)
   have hown2:w1.ownsRow W0.heap.size 140 2 v1 (Te.cols f.a).length (pairCells (Te.cols f.a)):=by rw[hL.out,C6,V4];exact hown1
   clear hown1 hgrow k0 k1 k2 k3 k4 k5 k6 k7 k8 k9 k10 k11 k12 k13;go_wp2_with fail
   go_meet
   case rel=>exact⟨hown2,hb1⟩
  ·have e1:(f.a.k == 1)=false:=by simpa using h
   have hL:=J1 (show Te.cols f.a=[] by simp[Te.cols,h])
   clear h;go_wp2_with fail
   go_meet
   case rel=>exact⟨by rw[hL.out];exact hown,hb⟩
 clear hown hb hlen;obtain⟨hown,hb⟩:=hcut;have hlen:(Te.cols f.a).length≤1:=Pr.te_cols_len _
 have z8:=(HP.out.below hb (show w.heap.size<W0.heap.size from HL.out)).c8
 go_upto_if 23 with(fail)
 clear z8
 go_cut [3] from 5 (fun s wr=>wr.ownsRow W0.heap.size 140 2 s (Te.cols f.a++Te.cols f.b).length (pairCells (Te.cols f.a++Te.cols f.b))∧Below W0 W0 wr)
 case first =>
  obtain⟨k0,k1,k2,k3,k4,k5,k6,k7,k8,k9,k10,k11,k12,k13⟩:=HP.out.below hb (show w.heap.size<W0.heap.size from HL.out)
  by_cases h:f.b.k=1
  ·have e1:(f.b.k == 1)=true:=by simpa using h
   have hL:=J1 (show Te.cols f.a++Te.cols f.b=Te.cols f.a++[(f.b.t,f.b.c)] by simp[Te.cols,h])
   have hcm:=J1 (show CameN (wc.alloc (Obj.cells #[f.b.t,f.b.c] 140)) 2 (.slice (some ⟨wc.heap.size,0,none⟩) 1 1) 1 [f.b.t,f.b.c] from CameN.new wc 140 2 1 [f.b.t,f.b.c] _ rfl rfl)
   have hone:=J1 (show ∀u∈([f.b.t,f.b.c]:List Value),u.oneCell'=true from X1 [(f.b.t,f.b.c)])
   have h63:=J1 (show(Te.cols f.a).length+1≤maxLen by unfold maxLen;omega)
   have hby:=J1 (show((Te.cols f.a).length+1)*16≤140737488355328 by omega)
   have hbs:=J1 (show W0.heap.size≤(wc.alloc (Obj.cells #[f.b.t,f.b.c] 140)).heap.size by have:=hb.size;rw[J2];omega)
   have hoa:=J1 (hown.alloc (Obj.cells #[f.b.t,f.b.c] 140));clear h
   go_wp2_with (first
    | (at_builtin;refine M5 _ rfl _ _ 138 rfl W0.heap.size 140 i0 (.agg #[z9,z9]) 2 16 Tryz.underlying138 hi hz0 hz1 hz2 rfl (by decide) _ (Te.cols f.a).length _ rfl hoa.out _ 1 [f.b.t,f.b.c] rfl hcm.out hone.out h63.out hby.out hbs.out ?_))
   intro v1 w1 hown1 hgrow;have hb1:Below W0 W0 w1:=(hb.alloc hb.size _).grown hgrow hbs.out (fun k hk=>(hown.lt k hk).1)
   have hown2:w1.ownsRow W0.heap.size 140 2 v1 (Te.cols f.a++Te.cols f.b).length (pairCells (Te.cols f.a++Te.cols f.b)):=by rw[hL.out,C6,V4];exact hown1
   clear hown1 hgrow k0 k1 k2 k3 k4 k5 k6 k7 k8 k9 k10 k11 k12 k13;go_wp2_with fail
   go_meet
   case rel=>exact⟨hown2,hb1⟩
  ·have e1:(f.b.k == 1)=false:=by simpa using h
   have hL:=J1 (show Te.cols f.a++Te.cols f.b=Te.cols f.a by simp[Te.cols,h])
   clear h;go_wp2_with fail
   go_meet
   case rel=>exact⟨by rw[hL.out];exact hown,hb⟩
 clear hown hb hlen;obtain⟨hown,hb⟩:=hcut;have HS:=J1 hown;go_wp2_with fail
 go_loopw [3,4] (fun s i wr=>∃(q:Nat),q≤n∧i=.int .i64 q∧wr.ownsRow W0.heap.size 140 2 s ((Te.cols f.a++Te.cols f.b)++Pr.colss (ps.take q)).length (pairCells ((Te.cols f.a++Te.cols f.b)++Pr.colss (ps.take q)))∧Below W0 W0 wr) (fun _ i _=>n-(intOf i).toNat)
 case atStart=>exact⟨0,E3 _,rfl,by rw[F8,Pr.colss,F3];exact HS.out,hb⟩
 case round =>
  obtain⟨q,hq,rfl,hown,hb⟩:=hrel
  have k13:=(HP.out.below hb (show w.heap.size<W0.heap.size from HL.out)).c13
  by_cases hlt:q<n
  ·obtain⟨p,gp⟩:∃p,ps[q]?=some p:=⟨ps[q]'(by have:=HN.out;omega),A8 _⟩
   have hu:=HU.out;rw[HN.out]at hu;obtain⟨e,b,o,s,v',he,rfl,_,hx⟩:=hu.at_ gp;obtain⟨hcell,hps⟩:=hx wr hb
   have cs:=IH.out e he p.f v' p.ps wr hps (by have:=Pr.sizes_down gp;have:=HZ.out;omega)
   rw[Pr.cols_mk]at cs;have HT:=J1 (Pr.colss_take gp)
   have hl1:((Te.cols f.a++Te.cols f.b)++Pr.colss (ps.take q)).length≤3000:=by
    have h1:=Pr.te_cols_len f.a;have h2:=Pr.te_cols_len f.b;have h3:=Pr.colss_len (ps.take q);have h4:=Pr.sizes_take q ps;have h5:=HZ.out;rw[C6,C6];omega
   have hl2:(Pr.cols p).length≤3000:=by
    have h1:=Pr.cols_len p;have h2:=Pr.sizes_at gp;have h3:=HZ.out;omega
   obtain⟨L1,hL1⟩:∃L,L=(Te.cols f.a++Te.cols f.b)++Pr.colss (ps.take q):=⟨_,rfl⟩;obtain⟨L2,hL2⟩:∃L,L=Pr.cols p:=⟨_,rfl⟩
   have HT2:=J1 (show(Te.cols f.a++Te.cols f.b)++Pr.colss (ps.take (q+1))=L1++L2 by rw[HT.out,hL1,hL2,D4,D4,D4])
   rw[←hL1]at hown hl1;rw[←hL2]at cs hl2;obtain⟨q0,q1,q2,q3,q4,q5,q6,q7,q8,q9,q10,q11,q12,q13⟩:=hcell;clear gp hx hps hu hL1 hL2 HT;go_wp2_with fail;refine cs.mono ?_;rintro e w2 ⟨v2,rfl,hown2,hb2⟩;have hb':=J5 hb hb2;have hown3:=A0m hown hb2;have hcame:=CameN.own hown2;clear cs q0 q1 q2 q3 q4 q5 q6 q7 q8 q9 q10 q11 q12 q13 k13 hb2 hb hown hown2
   go_wp2_with (first
    | (at_builtin;refine M5 _ rfl _ _ 138 rfl W0.heap.size 140 i0 (.agg #[z9,z9]) 2 16 Tryz.underlying138 hi hz0 hz1 hz2 rfl (by decide) _ _ _ rfl hown3 _ _ _ rfl hcame (X1 _) ?l1 ?l2 ?l3 ?_))
   case l1=>unfold maxLen;omega
   case l2=>omega
   case l3=>exact hb'.size
   intro v1 w3 hown4 hgrow;have hb3:Below W0 W0 w3:=hb'.grown hgrow hb'.size (fun k hk=>(hown3.lt k hk).1)
   have hown5:w3.ownsRow W0.heap.size 140 2 v1 ((Te.cols f.a++Te.cols f.b)++Pr.colss (ps.take (q+1))).length (pairCells ((Te.cols f.a++Te.cols f.b)++Pr.colss (ps.take (q+1)))):=by rw[HT2.out,C6,V4];exact hown4
   clear hown4 hgrow hown3 hcame hb';go_wp2_with fail
   go_roundw
   case rel=>exact⟨q+1,by omega,by go_num,hown5,hb3⟩
   case measure=>simp[intOf];omega
  ·have hL:(Te.cols f.a++Te.cols f.b)++Pr.colss (ps.take q)=Pr.cols (.mk f ps):=by rw[C7 (by have:=HN.out;omega),HC.out]
   rw[hL]at hown;have HO:=J1 hown;clear hL hown;go_wp2_with fail;go_ret;exact⟨_,rfl,HO.out.mono HB0.out.size,J5 HB0.out hb⟩
section
variable (k t c:Int) (z:Bool) (n:Int) (k' t' c':Int) (z':Bool) (n':Int) (w:World)
theorem A2y :
  (binOp .neq 55 (.agg #[k,t,c,z,n]) (.agg #[k',t',c',z',n'])).run Tryz.prog w=.ok (.bool (!Te.same ⟨k,t,c,z,n⟩ ⟨k',t',c',z',n'⟩)) w:=by
 go_simp
 by_cases e1:k=k' <;> by_cases e2:t=t' <;> by_cases e3:c=c' <;> by_cases e4:z=z' <;> by_cases e5:n=n' <;> simp[Te.same,e1,e2,e3,e4,e5]
end
theorem A9o {f:Pf} {dp:Nat} (h:Pr.head f dp=false):(4<dp)∨(dp≤4∧f.k<1)∨(dp≤4∧6<f.k)∨(dp≤4∧1≤f.k∧f.k≤6∧(f.k != 1)=false∧(f.k != 2)=true∧(f.k != 3)=true∧(f.o != 0)=true)∨(dp≤4∧1≤f.k∧f.k≤6∧(f.k != 1)=false∧(f.k != 2)=true∧(f.k != 3)=true∧(f.o != 0)=false∧Te.zero f.b=false)∨(dp≤4∧1≤f.k∧f.k≤6∧(f.k != 1)=false∧(f.k != 2)=true∧(f.k != 3)=true∧(f.o != 0)=false∧Te.zero f.b=true∧Te.zero f.a=false)∨(dp≤4∧1≤f.k∧f.k≤6∧(f.k != 1)=true∧(f.k != 2)=false∧(f.k != 3)=true∧(f.u != 0)=true)∨(dp≤4∧1≤f.k∧f.k≤6∧(f.k != 1)=true∧(f.k != 2)=true∧(f.k != 3)=false∧(f.u != 0)=true)∨(dp≤4∧1≤f.k∧f.k≤6∧(f.k != 1)=true∧(f.k != 2)=true∧(f.k != 3)=false∧(f.u != 0)=false∧(f.o != 0)=true)∨(dp≤4∧1≤f.k∧f.k≤6∧(f.k != 1)=true∧(f.k != 2)=true∧(f.k != 3)=false∧(f.u != 0)=false∧(f.o != 0)=false∧Te.zero f.b=false)∨(dp≤4∧1≤f.k∧f.k≤6∧(f.k != 1)=true∧(f.k != 2)=true∧(f.k != 3)=true∧(f.u != 0)=true)∨(dp≤4∧1≤f.k∧f.k≤6∧(f.k != 1)=true∧(f.k != 2)=true∧(f.k != 3)=true∧(f.u != 0)=false∧(f.o != 0)=true)∨(dp≤4∧1≤f.k∧f.k≤6∧(f.k != 1)=true∧(f.k != 2)=true∧(f.k != 3)=true∧(f.u != 0)=false∧(f.o != 0)=false∧Te.zero f.b=false)∨(dp≤4∧1≤f.k∧f.k≤6∧(f.k != 1)=true∧(f.k != 2)=true∧(f.k != 3)=true∧(f.u != 0)=false∧(f.o != 0)=false∧Te.zero f.b=true∧Te.zero f.a=false):=by
 by_cases a1:4<dp
 ·exact .inl a1
 by_cases a2:f.k<1
 ·exact .inr (.inl ⟨by omega,a2⟩)
 by_cases a3:6<f.k
 ·exact .inr (.inr (.inl ⟨by omega,a3⟩))
 have b1:dp≤4:=by omega
 have b2:1≤f.k:=by omega
 have b3:f.k≤6:=by omega
 have c1:decide (dp≤4)=true:=decide_eq_true b1;have c2:decide (1≤f.k)=true:=decide_eq_true b2;have c3:decide (f.k≤6)=true:=decide_eq_true b3;unfold Pr.head at h;rw[c1,c2,c3]at h;simp only[Bool.true_and]at h;have e:∀m:Int,(f.k != m)=!(f.k == m):=fun m=>rfl;have eu:(f.u != 0)=!(f.u == 0):=rfl;have eo:(f.o != 0)=!(f.o == 0):=rfl
 have x12:(f.k == 1)=true→(f.k == 2)=false∧(f.k == 3)=false:=by simp;omega
 have x21:(f.k == 2)=true→(f.k == 1)=false∧(f.k == 3)=false:=by simp;omega
 have x31:(f.k == 3)=true→(f.k == 1)=false∧(f.k == 2)=false:=by simp;omega
 simp only[e,eu,eo,b1,b2,b3,true_and];refine .inr (.inr (.inr ?_));generalize (f.k == 1)=p1 at *;generalize (f.k == 2)=p2 at *;generalize (f.k == 3)=p3 at *;generalize (f.u == 0)=u0 at *;generalize (f.o == 0)=o0 at *;generalize Te.zero f.a=za at *;generalize Te.zero f.b=zb at *;clear e eu eo a1 a2 a3 b1 b2 b3 c1 c2 c3
 cases p1 <;> cases p2 <;> cases p3 <;> cases u0 <;> cases o0 <;> cases za <;> cases zb <;> simp_all
theorem A75 (f:Pf) (u:Value) (dp:Nat) (w:World) (h:Pr.head f dp=false) (hdp:dp≤1000) :
  Calls Tryz.prog 146 #[.agg #[f.k,f.u,f.o,f.a.k,f.a.t,f.a.c,f.a.z,f.a.n,f.b.k,f.b.t,f.b.c,f.b.z,f.b.n,u],(dp:Int)] w fun e w'=>e=.returned (.bool false)∧Below w w w':=by
 have hd:=A9o h;have qa:=fun w=>A2y f.a.k f.a.t f.a.c f.a.z f.a.n 0 0 0 false 0 w;have qb:=fun w=>A2y f.b.k f.b.t f.b.c f.b.z f.b.n 0 0 0 false 0 w;have ha:Te.same ⟨f.a.k,f.a.t,f.a.c,f.a.z,f.a.n⟩ ⟨0,0,0,false,0⟩=Te.zero f.a:=rfl;have hb:Te.same ⟨f.b.k,f.b.t,f.b.c,f.b.z,f.b.n⟩ ⟨0,0,0,false,0⟩=Te.zero f.b:=rfl;rw[ha]at qa;rw[hb]at qb;generalize Te.zero f.a=za at *;generalize Te.zero f.b=zb at *;clear h ha hb
 rcases hd with h1 | ⟨h1,h2⟩ | ⟨h1,h2⟩ | ⟨h1,h2,h3,e0,e1,e2,e3⟩ | ⟨h1,h2,h3,e0,e1,e2,e3,rfl⟩ | ⟨h1,h2,h3,e0,e1,e2,e3,rfl,rfl⟩ | ⟨h1,h2,h3,e0,e1,e2,e3⟩ | ⟨h1,h2,h3,e0,e1,e2,e3⟩ | ⟨h1,h2,h3,e0,e1,e2,e3,e4⟩ | ⟨h1,h2,h3,e0,e1,e2,e3,e4,rfl⟩ | ⟨h1,h2,h3,e0,e1,e2,e3⟩ | ⟨h1,h2,h3,e0,e1,e2,e3,e4⟩ | ⟨h1,h2,h3,e0,e1,e2,e3,e4,rfl⟩ | ⟨h1,h2,h3,e0,e1,e2,e3,e4,rfl,rfl⟩
 all_goals
  go_enter Tryz.func146,Tryz.ntmps146;go_wp2_with fail;go_ret;exact⟨rfl,M8 _ _ _⟩
theorem A8A {f:Pf} {dp:Nat} (h:Pr.head f dp=true):dp≤4∧1≤f.k∧f.k≤6 ∧
  ((f.k != 1)=false∧(f.k != 2)=true∧(f.k != 3)=true∧(f.o != 0)=false∧Te.zero f.b=true∧Te.zero f.a=true ∨
   (f.k != 1)=true∧(f.k != 2)=false∧(f.k != 3)=true∧(f.u != 0)=false ∨
   (f.k != 1)=true∧(f.k != 2)=true∧(f.k != 3)=false∧(f.u != 0)=false∧(f.o != 0)=false∧Te.zero f.b=true ∨
   (f.k != 1)=true∧(f.k != 2)=true∧(f.k != 3)=true∧(f.u != 0)=false∧(f.o != 0)=false∧Te.zero f.b=true∧Te.zero f.a=true):=by
 unfold Pr.head at h;simp only[E7,decide_eq_true_eq]at h;obtain⟨⟨⟨⟨⟨⟨h1,h2⟩,h3⟩,h4⟩,h5⟩,h6⟩,h7⟩:=h;refine⟨h1,h2,h3,?_⟩;have e:∀m:Int,(f.k != m)=!(f.k == m):=fun m=>rfl;have eu:(f.u != 0)=!(f.u == 0):=rfl;have eo:(f.o != 0)=!(f.o == 0):=rfl
 have x12:(f.k == 1)=true→(f.k == 2)=false∧(f.k == 3)=false:=by simp;omega
 have x21:(f.k == 2)=true→(f.k == 1)=false∧(f.k == 3)=false:=by simp;omega
 have x31:(f.k == 3)=true→(f.k == 1)=false∧(f.k == 2)=false:=by simp;omega
 simp only[e,eu,eo];generalize (f.k == 1)=p1 at *;generalize (f.k == 2)=p2 at *;generalize (f.k == 3)=p3 at *;generalize (f.u == 0)=u0 at *;generalize (f.o == 0)=o0 at *;generalize Te.zero f.a=za at *;generalize Te.zero f.b=zb at *;clear e eu eo h1 h2 h3
 cases p1 <;> cases p2 <;> cases p3 <;> cases u0 <;> cases o0 <;> cases za <;> cases zb <;> simp_all
theorem A76 (d:Nat):∀(f:Pf) (u:Value) (ps:List Pd) (dp:Nat) (w:World),PsAt d w u ps→dp≤1000 →
  Calls Tryz.prog 146 #[.agg #[f.k,f.u,f.o,f.a.k,f.a.t,f.a.c,f.a.z,f.a.n,f.b.k,f.b.t,f.b.c,f.b.z,f.b.n,u],(dp:Int)] w fun e w'=>e=.returned (.bool (Pr.rightAt (.mk f ps) dp))∧Below w w w':=by
 induction d using Nat.strongRecOn with
 | ind d ih =>
 intro f u ps dp w hu hdp
 have hR:Pr.rightAt (.mk f ps) dp=(Pr.head f dp&&Pr.rightAts ps (dp+1)&&Pr.tail f ps.length):=by rw[Pr.rightAt]
 by_cases hh:Pr.head f dp=true
 ·rw[hh,Bool.true_and]at hR;obtain⟨hd4,hk1,hk6,hways⟩:=A8A hh;have qa:=fun w=>A2y f.a.k f.a.t f.a.c f.a.z f.a.n 0 0 0 false 0 w;have qb:=fun w=>A2y f.b.k f.b.t f.b.c f.b.z f.b.n 0 0 0 false 0 w;have ha:Te.same ⟨f.a.k,f.a.t,f.a.c,f.a.z,f.a.n⟩ ⟨0,0,0,false,0⟩=Te.zero f.a:=rfl;have hb:Te.same ⟨f.b.k,f.b.t,f.b.c,f.b.z,f.b.n⟩ ⟨0,0,0,false,0⟩=Te.zero f.b:=rfl;rw[ha]at qa;rw[hb]at qb;generalize Te.zero f.a=za at qa hways;generalize Te.zero f.b=zb at qb hways;obtain⟨W0,hW0⟩:∃W0,W0=(w.alloc (Obj.cells #[f.k,f.u,f.o,f.a.k,f.a.t,f.a.c,f.a.z,f.a.n,f.b.k,f.b.t,f.b.c,f.b.z,f.b.n,u] 57)).alloc (Obj.cells #[z9,z9,z9,false,z9] 55):=⟨_,rfl⟩;obtain⟨l0,l1,hb0⟩:=Q0 (cs:=f.cells u) (ds:=[z9,z9,z9,false,z9]) hW0;have HU:=J1 (hu.below hb0 (C3 _));obtain⟨A,c,rfl,hl⟩:=hu.form;have HW:=J1 hW0;have IH:=J1 ih;have HP:=J1 l0.pd;have L1:=J1 l1;have HL:=J1 l0.lt;have hres:=hR;obtain⟨res,hr⟩:∃res,res=Pr.rightAt (.mk f ps) dp:=⟨_,rfl⟩;rw[←hr]at hres ⊢;have HE:=J1 hres;have HS:=J1 (Pr.rightAts_iff ps (dp+1));obtain⟨n,hn⟩:∃n,n=ps.length:=⟨_,rfl⟩;rw[←hn]at hl HU HP HW HE ⊢;have HN:=J1 hn;have HYS:=J1 hways;have HQ:=J1 (J0 qa qb);have k0:=(l0.below (Below.refl W0 W0) l0.lt).c 0 rfl;clear hW0 ih hu l0 l1 hn hres hr hR hh ha hb hways qa qb k0;have k0:=HP.out.c0;rw[HW.out]at k0;go_enter Tryz.func146,Tryz.ntmps146
  go_upto_region 4 with(fail)
  rw[←HW.out];clear k0
  go_cut [65] from 8 (fun s wr=>s=.bool false∧W0=wr)
  case first =>
   obtain⟨k0,k1,k2,k3,k4,k5,k6,k7,k8,k9,k10,k11,k12,k13⟩:=HP.out;have z0:=L1.out.c 0 rfl;have z1:=L1.out.c 1 rfl;have z2:=L1.out.c 2 rfl;have z3:=L1.out.c 3 rfl;have z4:=L1.out.c 4 rfl;obtain⟨qa,qb⟩:=HQ.out
   rcases HYS.out with⟨e0,e1,e2,e3,rfl,rfl⟩ | ⟨e0,e1,e2,e3⟩ | ⟨e0,e1,e2,e3,e4,rfl⟩ | ⟨e0,e1,e2,e3,e4,rfl,rfl⟩
   all_goals
    go_wp2_with fail
    go_meet
    case rel=>exact⟨rfl,rfl⟩
  obtain⟨rfl,rfl⟩:=hcut;go_wp2_with fail
  go_loopw [6] (fun i wr=>∃(q:Nat),q≤n∧i=.int .i64 q∧Hid (∀(j:Nat) (p:Pd),j<q→ps[j]?=some p→Pr.rightAt p (dp+1)=true)∧Below W0 W0 wr) (fun i _=>n-(intOf i).toNat)
  case atStart=>exact⟨0,E3 _,rfl,J1 (fun j p h=>by omega),Below.refl _ _⟩
  case round =>
   obtain⟨q,hq,rfl,hsv,hb⟩:=hrel
   obtain⟨k0,k1,k2,k3,k4,k5,k6,k7,k8,k9,k10,k11,k12,k13⟩:=HP.out.below hb (show w.heap.size<W0.heap.size from HL.out)
   by_cases hlt:q<n
   ·obtain⟨p,gp⟩:∃p,ps[q]?=some p:=⟨ps[q]'(by have:=HN.out;omega),A8 _⟩
    have hu:=HU.out;rw[HN.out]at hu;obtain⟨e,b,o,s,v,he,rfl,_,hx⟩:=hu.at_ gp;obtain⟨hcell,hps⟩:=hx wr hb
    have cs:=IH.out e he p.f v p.ps (dp+1) wr hps (by omega)
    have hpe:Pd.mk p.f p.ps=p:=by cases p;rfl
    rw[hpe,show(((dp+1:Nat)):Int)=(dp:Int)+1 by omega]at cs
    obtain⟨r,hr⟩:∃r,r=Pr.rightAt p (dp+1):=⟨_,rfl⟩;rw[←hr]at cs;have HR:=J1 hr;have GP:=J1 gp;obtain⟨q0,q1,q2,q3,q4,q5,q6,q7,q8,q9,q10,q11,q12,q13⟩:=hcell;clear gp hx hps hu hpe hr k0 k1 k2 k3 k4 k5 k6 k7 k8 k9 k10 k11 k12;go_wp2_with fail;refine cs.mono ?_;rintro e w2 ⟨rfl,hb2⟩;have hb3:=J5 hb hb2;clear cs q0 q1 q2 q3 q4 q5 q6 q7 q8 q9 q10 q11 q12 q13 k13 hb hb2;cases r
    ·have hm:Hid (res=false):=J1 (by
      rw[HE.out]
      cases h:Pr.rightAts ps (dp+1)with
      | false=>rfl
      | true=>rw[HS.out]at h;rw[h p (C8 GP.out)]at HR;exact absurd HR.out (by decide))
     go_wp2_with fail;go_ret;exact⟨J8 hm.out.symm,J5 hb0 hb3⟩
    ·have hs2:Hid (∀(j:Nat) (x:Pd),j<q+1→ps[j]?=some x→Pr.rightAt x (dp+1)=true):=J1 (fun j x hj h1=>by
      by_cases e:j=q
      ·subst e;rw[GP.out]at h1;cases h1;exact HR.out.symm
      ·exact hsv.out j x (by omega) h1)
     go_wp2_with fail
     go_roundw
     case rel=>exact⟨q+1,by omega,by go_num,hs2,hb3⟩
     case measure=>simp[intOf];omega
   ·have hall:Pr.rightAts ps (dp+1)=true:=HS.out.2 fun p hp=>by
     obtain⟨j,hj,e⟩:=F9.1 hp
     exact hsv.out j p (by have:=HN.out;omega) (by rw[A8 hj,e])
    have ht:res=Pr.tail f n:=by rw[HE.out,hall,Bool.true_and]
    have HT:=J1 ht;clear hall ht hsv
    by_cases h1:f.k=1
    ·have e1:(f.k == 1)=true:=by simpa using h1
     have ht:res=(n == 0&&decide (0≤f.u)&&decide (f.u≤2)):=by rw[HT.out];exact if_pos h1
     have HT2:=J1 ht;clear h1 ht
     by_cases hn:n=0
     ·have z1:((n:Int) == 0)=true:=by simpa using hn
      have z2:(n == 0)=true:=by simpa using hn
      have Z2:=J1 z2;clear hn
      by_cases u1:0≤f.u
      ·by_cases u2:f.u≤2
       ·have hm:=J1 (show res=true by rw[HT2.out,Z2.out];simp[u1,u2])
        go_wp2_with fail;go_ret;exact⟨J8 hm.out.symm,J5 hb0 hb⟩
       ·have hm:=J1 (show res=false by rw[HT2.out];simp[u2])
        go_wp2_with fail;go_ret;exact⟨J8 hm.out.symm,J5 hb0 hb⟩
      ·have hm:=J1 (show res=false by rw[HT2.out];simp[u1])
       go_wp2_with fail;go_ret;exact⟨J8 hm.out.symm,J5 hb0 hb⟩
     ·have z1:((n:Int) == 0)=false:=by simpa using hn
      have z2:(n == 0)=false:=by simpa using hn
      have hm:=J1 (show res=false by rw[HT2.out,z2];rfl)
      clear hn;go_wp2_with fail;go_ret;exact⟨J8 hm.out.symm,J5 hb0 hb⟩
    by_cases h2:f.k=2
    ·have e1:(f.k == 1)=false:=by simp;omega
     have e2:(f.k == 2)=true:=by simpa using h2
     have ht:res=(n == 0&&decide (1≤f.o)&&decide (f.o≤6)&&Te.right f.a&&Te.right f.b):=by rw[HT.out];unfold Pr.tail;rw[if_neg h1,if_pos h2]
     have HT2:=J1 ht;clear h1 h2 ht
     by_cases hn:n=0
     ·have z1:((n:Int) == 0)=true:=by simpa using hn
      have z2:(n == 0)=true:=by simpa using hn
      have Z2:=J1 z2;clear hn
      by_cases u1:1≤f.o
      ·by_cases u2:f.o≤6
       ·have ca:=A0v f.a.k f.a.t f.a.c f.a.z f.a.n wr;have hra:Te.right ⟨f.a.k,f.a.t,f.a.c,f.a.z,f.a.n⟩=Te.right f.a:=rfl;rw[hra]at ca;obtain⟨ra,hr1⟩:∃ra,ra=Te.right f.a:=⟨_,rfl⟩;rw[←hr1]at ca;have HR1:=J1 hr1;clear hr1 hra;go_wp2_with fail;refine ca.mono ?_;rintro e w2 ⟨rfl,hb2⟩;have hb3:=J5 hb hb2;clear ca k0 k1 k2 k3 k4 k5 k6 k7 k8 k9 k10 k11 k12 k13
        obtain⟨k0,k1,k2,k3,k4,k5,k6,k7,k8,k9,k10,k11,k12,k13⟩:=HP.out.below hb3 (show w.heap.size<W0.heap.size from HL.out)
        cases ra
        ·have hm:=J1 (show res=false by rw[HT2.out,←HR1.out];simp)
         go_wp2_with fail;go_ret;exact⟨J8 hm.out.symm,J5 hb0 hb3⟩
        ·have cb:=A0v f.b.k f.b.t f.b.c f.b.z f.b.n w2;have hrb:Te.right ⟨f.b.k,f.b.t,f.b.c,f.b.z,f.b.n⟩=Te.right f.b:=rfl;rw[hrb]at cb;obtain⟨rb,hr1⟩:∃rb,rb=Te.right f.b:=⟨_,rfl⟩;rw[←hr1]at cb
         have hm:=J1 (show res=rb by rw[HT2.out,←HR1.out,←hr1,Z2.out];simp[u1,u2])
         clear hr1 hrb;go_wp2_with fail;refine cb.mono ?_;rintro e w3 ⟨rfl,hb4⟩;have hb5:=J5 hb3 hb4;clear cb k0 k1 k2 k3 k4 k5 k6 k7 k8 k9 k10 k11 k12 k13;go_wp2_with fail;go_ret;exact⟨J8 hm.out.symm,J5 hb0 hb5⟩
       ·have hm:=J1 (show res=false by rw[HT2.out];simp[u2])
        go_wp2_with fail;go_ret;exact⟨J8 hm.out.symm,J5 hb0 hb⟩
      ·have hm:=J1 (show res=false by rw[HT2.out];simp[u1])
       go_wp2_with fail;go_ret;exact⟨J8 hm.out.symm,J5 hb0 hb⟩
     ·have z1:((n:Int) == 0)=false:=by simpa using hn
      have z2:(n == 0)=false:=by simpa using hn
      have hm:=J1 (show res=false by rw[HT2.out,z2];rfl)
      clear hn;go_wp2_with fail;go_ret;exact⟨J8 hm.out.symm,J5 hb0 hb⟩
    by_cases h3:f.k=3
    ·have e1:(f.k == 1)=false:=by simp;omega
     have e2:(f.k == 2)=false:=by simp;omega
     have e3:(f.k == 3)=true:=by simpa using h3
     have ht:res=(n == 0&&Te.right f.a):=by rw[HT.out];unfold Pr.tail;rw[if_neg h1,if_neg h2,if_pos h3]
     have HT2:=J1 ht;clear h1 h2 h3 ht
     by_cases hn:n=0
     ·have z1:((n:Int) == 0)=true:=by simpa using hn
      have z2:(n == 0)=true:=by simpa using hn
      have Z2:=J1 z2;clear hn;have ca:=A0v f.a.k f.a.t f.a.c f.a.z f.a.n wr;have hra:Te.right ⟨f.a.k,f.a.t,f.a.c,f.a.z,f.a.n⟩=Te.right f.a:=rfl;rw[hra]at ca;obtain⟨ra,hr1⟩:∃ra,ra=Te.right f.a:=⟨_,rfl⟩;rw[←hr1]at ca
      have hm:=J1 (show res=ra by rw[HT2.out,←hr1,Z2.out];rfl)
      clear hr1 hra;go_wp2_with fail;refine ca.mono ?_;rintro e w2 ⟨rfl,hb2⟩;have hb3:=J5 hb hb2;clear ca k0 k1 k2 k3 k4 k5 k6 k7 k8 k9 k10 k11 k12 k13;go_wp2_with fail;go_ret;exact⟨J8 hm.out.symm,J5 hb0 hb3⟩
     ·have z1:((n:Int) == 0)=false:=by simpa using hn
      have z2:(n == 0)=false:=by simpa using hn
      have hm:=J1 (show res=false by rw[HT2.out,z2];rfl)
      clear hn;go_wp2_with fail;go_ret;exact⟨J8 hm.out.symm,J5 hb0 hb⟩
    have e1:(f.k == 1)=false:=by simp;omega
    have e2:(f.k == 2)=false:=by simp;omega
    have e3:(f.k == 3)=false:=by simp;omega
    by_cases h6:f.k=6
    ·have e6:(f.k == 6)=true:=by simpa using h6
     have hm:=J1 (show res=(n == 1) by rw[HT.out];unfold Pr.tail;rw[if_neg h1,if_neg h2,if_neg h3,if_pos h6])
     clear h1 h2 h3 h6;go_wp2_with fail;go_ret
     exact⟨J8 (by rw[hm.out,Bool.eq_iff_iff];simp;try omega),J5 hb0 hb⟩
    ·have e6:(f.k == 6)=false:=by simpa using h6
     have hm:=J1 (show res=decide (n≤4) by rw[HT.out];unfold Pr.tail;rw[if_neg h1,if_neg h2,if_neg h3,if_neg h6])
     clear h1 h2 h3 h6;go_wp2_with fail;go_ret
     exact⟨J8 (by rw[hm.out,Bool.eq_iff_iff];simp;try omega),J5 hb0 hb⟩
 ·have hh':Pr.head f dp=false:=by simpa using hh
  rw[hR,hh',Bool.false_and,Bool.false_and];exact A75 f u dp w hh' hdp
theorem A3X (d:Nat) (f:Pf) (u:Value) (ps:List Pd) (w:World) (hu:PsAt d w u ps) :
  Calls Tryz.prog 129 #[.agg #[f.k,f.u,f.o,f.a.k,f.a.t,f.a.c,f.a.z,f.a.n,f.b.k,f.b.t,f.b.c,f.b.z,f.b.n,u]] w fun e w'=>e=.returned (.bool (Pr.rightAt (.mk f ps) 1))∧Below w w w':=by
 have cs:=fun W (h:Below w w W)=>A76 d f u ps 1 W (hu.below h (C3 _)) (by omega)
 rw[show(((1:Nat)):Int)=1 from rfl]at cs
 have CS:=J1 cs;clear cs hu;generalize Pr.rightAt (.mk f ps) 1=r at CS ⊢;obtain⟨W0,hW0⟩:∃W0,W0=w.alloc (Obj.cells #[f.k,f.u,f.o,f.a.k,f.a.t,f.a.c,f.a.z,f.a.n,f.b.k,f.b.t,f.b.c,f.b.z,f.b.n,u] 57):=⟨_,rfl⟩;obtain⟨_,hp,hb0⟩:=V9 hW0;obtain⟨k0,k1,k2,k3,k4,k5,k6,k7,k8,k9,k10,k11,k12,k13⟩:=hp;have cs:=CS.out W0 hb0;rw[hW0]at k0 k1 k2 k3 k4 k5 k6 k7 k8 k9 k10 k11 k12 k13 cs hb0;clear hW0;go_enter Tryz.func129,Tryz.ntmps129;go_wp2_with fail;refine cs.mono ?_;rintro e w2 ⟨rfl,hb2⟩;have hbz:=J5 hb0 hb2;clear cs k0 k1 k2 k3 k4 k5 k6 k7 k8 k9 k10 k11 k12 k13 hb0 hb2;go_wp2_with fail;go_ret;exact⟨rfl,hbz⟩
theorem A2m (a b:Int) (w:World) :
  Calls Tryz.prog 23 #[a,b] w fun e w'=>e=.returned (.agg #[.int .i64 2,z9,.int .i64 1,.int .i64 1,a,z9,false,z9,.int .i64 1,b,z9,false,z9,()])∧Below w w w':=by
 go_enter Tryz.func23,Tryz.ntmps23;go_wp2_with fail
 exact bodyPost_ret (v:=.agg #[.int .i64 2,z9,.int .i64 1,.int .i64 1,a,z9,false,z9,.int .i64 1,b,z9,false,z9,()]) (by simp[results,Tryz.results23,go_sem]) rfl ⟨rfl,J6 _ _⟩
end Go.Proofs.YtbddhkgbpjhhaaaGreatDoor
