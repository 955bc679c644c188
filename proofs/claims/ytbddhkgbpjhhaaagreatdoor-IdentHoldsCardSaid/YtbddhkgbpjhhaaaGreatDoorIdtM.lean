/-
  PACKAGE ident: a node taken apart: alone.
-/
import Derived.Test.YtbddhkgbpjhhaaaGreatDoorIdpM
import Derived.Test.YtbddhkgbpjhhaaaGreatDoorIdzM
import Derived.Test.YtbddhkgbpjhhaaaGreatDoorGBase
import Derived.Deep.Cut
import Derived.Deep.RegionHeld3
namespace Go.Proofs.YtbddhkgbpjhhaaaGreatDoor
abbrev J3:=@Go.AllReadyH.cons
abbrev J4:=@Go.AllReadyH.nil
end Go.Proofs.YtbddhkgbpjhhaaaGreatDoor
set_option maxHeartbeats 6400000
set_option maxRecDepth 100000
namespace Go.Proofs.YtbddhkgbpjhhaaaGreatDoor
open Go.RowKit Go.Sort
def ApIs (T:Nat→Prop) (how:Nat) (t:Tr) (w:World) (E:Ending) (w':World):Prop :=
 (∃a b e f g:Nd,Id.apart how t=some ⟨a.a,b.a,e.a,f.a,g.a⟩∧E=.returned (.tuple #[.agg (c35 a b e f g).toArray,true])∧(TNd T w' a∧TNd T w' e∧TNd T w' f∧(how≠1→TNd T w' b∧TNd T w' g))∧Below w w w') ∨
 (Id.apart how t=none∧E=.returned (.tuple #[.agg z35.toArray,false])∧Below w w w')
theorem Q7 {P:Program} {md:Region.Mode} {ops:Array Oper} {Q:Exit→Act→World→Prop} {S:World→Prop} {m m':Nat} {l l':Array Bool} {a:Act} {w:World} (h:l=l') (hm:m=m') (k:wpAnyH P md ops Q S m' l' a w):wpAnyH P md ops Q S m l a w:=h ▸ hm ▸ k
theorem A5K (T:Nat→Prop) (z:Nd) (w:World) (hz:TNd T w z) (hT:∀k,T k→k<w.heap.size) :
  Calls Tryz.prog 68 #[.agg #[z.a.k,z.a.t,.slice z.uA z.uN z.uC,.slice z.pA z.pN z.pC,z.a.h,.int .u64 (z.n:Int),.slice z.xA z.xN z.xC]] w (ApIs T 1 z.a w):=by
 have hxN:=hz.xN;obtain⟨za,zuA,zuN,zuC,zpA,zpN,zpC,zn,zxA,zxN,zxC⟩:=z;change zxN=za.ks.length at hxN;subst hxN;dsimp only;obtain⟨W0,hW0⟩:∃W0,W0=(w.alloc (Obj.cells #[za.k,za.t,.slice zuA zuN zuC,.slice zpA zpN zpC,za.h,.int .u64 (zn:Int),.slice zxA za.ks.length zxC] 68)).alloc (Obj.cells z35.toArray 123):=⟨_,rfl⟩;obtain⟨l0,l1,hb0⟩:=Q0 (cs:=[za.k,za.t,.slice zuA zuN zuC,.slice zpA zpN zpC,za.h,.int .u64 (zn:Int),.slice zxA za.ks.length zxC]) (ds:=z35) hW0;have HW:=J1 hW0;have HB0:=J1 hb0;have HZ:=J1 (hz.below hb0);have HL1:=J1 l1
 have HT:=J1 (show ¬T (w.heap.size+1) from fun h=>by have:=hT _ h;omega)
 by_cases h2:za.ks.length=2
 ·skip
  obtain⟨e,f,hk⟩:∃e f,za.ks=[e,f]:=by
   match hkk:za.ks,h2 with
   | [x,y],_=>exact⟨x,y,rfl⟩
  obtain⟨g0,o0,s0,ye,hA0,ht0,hlt0,hye,ce,te⟩:=(hz.below hb0).kid (j:=0) (b:=e) (by show za.ks[0]?=_;rw[hk];rfl)
  change zxA=_ at hA0
  obtain⟨g1,o1,s1,yf,hA1,ht1,hlt1,hyf,cf,tf⟩:=(hz.below hb0).kid (j:=1) (b:=f) (by show za.ks[1]?=_;rw[hk];rfl)
  change zxA=_ at hA1;rw[hA0]at hA1;cases hA1;subst hA0;obtain⟨ea,euA,euN,euC,epA,epN,epC,en,exA,exN,exC⟩:=ye;obtain⟨fa,fuA,fuN,fuC,fpA,fpN,fpC,fn,fxA,fxN,fxC⟩:=yf;change ea=e at hye;change fa=f at hyf;subst hye;subst hyf;have HK:=J1 hk;have HE:=J1 te;have HF:=J1 tf;rw[h2]at l0 HW HZ ⊢
  have hadd:(⟨g0,o0,s0⟩:Addr).add (1*7)=⟨g0,o0+7,none⟩:=by unfold Addr.add;simp
  obtain⟨e0,e1,e2,e3,e4,e5,e6⟩:=ce;obtain⟨f0,f1,f2,f3,f4,f5,f6⟩:=cf;simp only[Nat.zero_mul,R3]at e0 e1 e2 e3 e4 e5 e6;simp only[hadd]at f0 f1 f2 f3 f4 f5 f6;obtain⟨z0,z1,z2,z3,z4,z5,z6⟩:=Lies.nd (z:=⟨za,zuA,zuN,zuC,zpA,zpN,zpC,zn,some ⟨g0,o0,s0⟩,2,zxC⟩) l0;dsimp only[Nd.cells]at z0 z1 z2 z3 z4 z5 z6;simp only[G6]at z0 z1 z2 z3 z4 z5 z6
  have HKP:=J1 (show T g0∧g0<w.heap.size from⟨ht0,hT _ ht0⟩)
  clear hz hT hb0 hW0 te tf hk h2 l0 l1 hadd ht0 hlt0 ht1 hlt1;go_enter Tryz.func68,Tryz.ntmps68
  go_upto_region 1 with(fail)
  rw[←HW.out]
  go_upto_region 3 with(fail)
  refine wp_region_held_drew (S:=fun W=>W.cell? ⟨w.heap.size,0,none⟩=some (.int .i64 za.k)∧W.cell? ⟨w.heap.size,1,none⟩=some (.int .i64 za.t)∧W.cell? ⟨w.heap.size,2,none⟩=some (.slice zuA zuN zuC)∧W.cell? ⟨w.heap.size,3,none⟩=some (.slice zpA zpN zpC)∧W.cell? ⟨w.heap.size,4,none⟩=some (.bool za.h)∧W.cell? ⟨w.heap.size,5,none⟩=some (.int .u64 (zn:Int))∧W.cell? ⟨w.heap.size,6,none⟩=some (.slice (some ⟨g0,o0,s0⟩) 2 zxC)∧W.cell? ⟨g0,o0,s0⟩=some (.int .i64 ea.k)∧W.cell? ⟨g0,o0+1,none⟩=some (.int .i64 ea.t)∧W.cell? ⟨g0,o0+2,none⟩=some (.slice euA euN euC)∧W.cell? ⟨g0,o0+3,none⟩=some (.slice epA epN epC)∧W.cell? ⟨g0,o0+4,none⟩=some (.bool ea.h)∧W.cell? ⟨g0,o0+5,none⟩=some (.int .u64 (en:Int))∧W.cell? ⟨g0,o0+6,none⟩=some (.slice exA exN exC)∧W.cell? ⟨g0,o0+7,none⟩=some (.int .i64 fa.k)∧W.cell? ⟨g0,o0+7+1,none⟩=some (.int .i64 fa.t)∧W.cell? ⟨g0,o0+7+2,none⟩=some (.slice fuA fuN fuC)∧W.cell? ⟨g0,o0+7+3,none⟩=some (.slice fpA fpN fpC)∧W.cell? ⟨g0,o0+7+4,none⟩=some (.bool fa.h)∧W.cell? ⟨g0,o0+7+5,none⟩=some (.int .u64 (fn:Int))∧W.cell? ⟨g0,o0+7+6,none⟩=some (.slice fxA fxN fxC)) (by kernel_rfl) (by exact⟨z0,z1,z2,z3,z4,z5,z6,e0,e1,e2,e3,e4,e5,e6,f0,f1,f2,f3,f4,f5,f6⟩) (fun hS=>?_)
  refine Q7 (l':=Array.replicate 12 false) (m':=12) (by kernel_rfl) (by kernel_rfl) ?_
  clear z0 z1 z2 z3 z4 z5 z6 e0 e1 e2 e3 e4 e5 e6 f0 f1 f2 f3 f4 f5 f6
  refine tk9 (i:=0) (v:=?v0) rfl (Or.inl ⟨by rfl,?hy0⟩) hS ?rest0
  case hy0=>(intro w hSw;obtain⟨z0,z1,z2,z3,z4,z5,z6,e0,e1,e2,e3,e4,e5,e6,f0,f1,f2,f3,f4,f5,f6⟩:=hSw;go_simp;try with_reducible rfl)
  try simp only[Act.put,A7,C4,C5]
  refine tk9 (i:=1) (v:=?v1) rfl (Or.inl ⟨by rfl,?hy1⟩) hS ?rest1
  case hy1=>(intro w hSw;obtain⟨z0,z1,z2,z3,z4,z5,z6,e0,e1,e2,e3,e4,e5,e6,f0,f1,f2,f3,f4,f5,f6⟩:=hSw;go_simp;try with_reducible rfl)
  try simp only[Act.put,A7,C4,C5]
  refine tk9 (i:=2) (v:=?v2) rfl (Or.inl ⟨by rfl,?hy2⟩) hS ?rest2
  case hy2=>(intro w hSw;obtain⟨z0,z1,z2,z3,z4,z5,z6,e0,e1,e2,e3,e4,e5,e6,f0,f1,f2,f3,f4,f5,f6⟩:=hSw;go_simp;try with_reducible rfl)
  try simp only[Act.put,A7,C4,C5]
  refine tk9 (i:=3) (v:=?v3) rfl (Or.inl ⟨by rfl,?hy3⟩) hS ?rest3
  case hy3=>(intro w hSw;obtain⟨z0,z1,z2,z3,z4,z5,z6,e0,e1,e2,e3,e4,e5,e6,f0,f1,f2,f3,f4,f5,f6⟩:=hSw;go_simp;try with_reducible rfl)
  try simp only[Act.put,A7,C4,C5]
  refine tk9 (i:=4) (v:=?v4) rfl (Or.inl ⟨by rfl,?hy4⟩) hS ?rest4
  case hy4=>(intro w hSw;obtain⟨z0,z1,z2,z3,z4,z5,z6,e0,e1,e2,e3,e4,e5,e6,f0,f1,f2,f3,f4,f5,f6⟩:=hSw;go_simp;try with_reducible rfl)
  try simp only[Act.put,A7,C4,C5]
  refine tk9 (i:=5) (v:=?v5) rfl (Or.inl ⟨by rfl,?hy5⟩) hS ?rest5
  case hy5=>(intro w hSw;obtain⟨z0,z1,z2,z3,z4,z5,z6,e0,e1,e2,e3,e4,e5,e6,f0,f1,f2,f3,f4,f5,f6⟩:=hSw;go_simp;try with_reducible rfl)
  try simp only[Act.put,A7,C4,C5]
  refine tk9 (i:=6) (v:=?v6) rfl (Or.inl ⟨by rfl,?hy6⟩) hS ?rest6
  case hy6=>(intro w hSw;obtain⟨z0,z1,z2,z3,z4,z5,z6,e0,e1,e2,e3,e4,e5,e6,f0,f1,f2,f3,f4,f5,f6⟩:=hSw;go_simp;try with_reducible rfl)
  try simp only[Act.put,A7,C4,C5]
  refine tk9 (i:=7) (v:=?v7) rfl (Or.inl ⟨by rfl,?hy7⟩) hS ?rest7
  case hy7=>(intro w hSw;obtain⟨z0,z1,z2,z3,z4,z5,z6,e0,e1,e2,e3,e4,e5,e6,f0,f1,f2,f3,f4,f5,f6⟩:=hSw;go_simp;try with_reducible rfl)
  try simp only[Act.put,A7,C4,C5]
  refine tk9 (i:=8) (v:=?v8) rfl (Or.inl ⟨by rfl,?hy8⟩) hS ?rest8
  case hy8=>(intro w hSw;obtain⟨z0,z1,z2,z3,z4,z5,z6,e0,e1,e2,e3,e4,e5,e6,f0,f1,f2,f3,f4,f5,f6⟩:=hSw;go_simp;try with_reducible rfl)
  try simp only[Act.put,A7,C4,C5]
  refine tk9 (i:=9) (v:=?v9) rfl (Or.inl ⟨by rfl,?hy9⟩) hS ?rest9
  case hy9=>(intro w hSw;obtain⟨z0,z1,z2,z3,z4,z5,z6,e0,e1,e2,e3,e4,e5,e6,f0,f1,f2,f3,f4,f5,f6⟩:=hSw;go_simp;try with_reducible rfl)
  try simp only[Act.put,A7,C4,C5]
  refine wpAnyH_ready (rs:=[10]) (by kernel_rfl) (by simp) ?_
  refine J3 rfl (fun K hK=>?_) J4
  rw[if_pos (by kernel_rfl)]
  refine wp_store_mid 123 _ _ rfl (w.heap.size+1) 0 (.int .i64 za.k::.int .i64 za.t::.slice zuA zuN zuC::.slice zpA zpN zpC::.bool za.h::.int .u64 (zn:Int)::.slice (some ⟨g0,o0,s0⟩) 2 zxC::.int .i64 0::.int .i64 0::.slice none 0 0::.slice none 0 0::.bool false::.int .u64 0::.slice none 0 0::.int .i64 ea.k::.int .i64 ea.t::.slice euA euN euC::.slice epA epN epC::.bool ea.h::.int .u64 (en:Int)::.slice exA exN exC::.int .i64 fa.k::.int .i64 fa.t::.slice fuA fuN fuC::.slice fpA fpN fpC::.bool fa.h::.int .u64 (fn:Int)::.slice fxA fxN fxC::.int .i64 0::.int .i64 0::.slice none 0 0::.slice none 0 0::.bool false::.int .u64 0::.slice none 0 0::[]).toArray rfl rfl (Lies.there (W:=W0.drew) (cs:=z35) HL1.out rfl) (by kernel_rfl) (by rw[←G0];rfl) ?_
  obtain⟨W6,hW6⟩:∃W6,W6=setCells W0.drew (w.heap.size+1) 0 (.int .i64 za.k::.int .i64 za.t::.slice zuA zuN zuC::.slice zpA zpN zpC::.bool za.h::.int .u64 (zn:Int)::.slice (some ⟨g0,o0,s0⟩) 2 zxC::.int .i64 0::.int .i64 0::.slice none 0 0::.slice none 0 0::.bool false::.int .u64 0::.slice none 0 0::.int .i64 ea.k::.int .i64 ea.t::.slice euA euN euC::.slice epA epN epC::.bool ea.h::.int .u64 (en:Int)::.slice exA exN exC::.int .i64 fa.k::.int .i64 fa.t::.slice fuA fuN fuC::.slice fpA fpN fpC::.bool fa.h::.int .u64 (fn:Int)::.slice fxA fxN fxC::.int .i64 0::.int .i64 0::.slice none 0 0::.slice none 0 0::.bool false::.int .u64 0::.slice none 0 0::[]):=⟨_,rfl⟩;rw[L6];rw[←hW6]
  obtain⟨hl,hb6,hk6,hq6,hk7⟩:=L9 (P:=Tryz.prog) (L:=(.int .i64 za.k::.int .i64 za.t::.slice zuA zuN zuC::.slice zpA zpN zpC::.bool za.h::.int .u64 (zn:Int)::.slice (some ⟨g0,o0,s0⟩) 2 zxC::.int .i64 0::.int .i64 0::.slice none 0 0::.slice none 0 0::.bool false::.int .u64 0::.slice none 0 0::.int .i64 ea.k::.int .i64 ea.t::.slice euA euN euC::.slice epA epN epC::.bool ea.h::.int .u64 (en:Int)::.slice exA exN exC::.int .i64 fa.k::.int .i64 fa.t::.slice fuA fuN fuC::.slice fpA fpN fpC::.bool fa.h::.int .u64 (fn:Int)::.slice fxA fxN fxC::.int .i64 0::.int .i64 0::.slice none 0 0::.slice none 0 0::.bool false::.int .u64 0::.slice none 0 0::[])) (W:=W0.drew) HL1.out rfl Tryz.underlying123 rfl (by kernel_rfl) HB0.out.drew (Nat.le_succ _) hW6
  obtain⟨z0,z1,z2,z3,z4,z5,z6,e0,e1,e2,e3,e4,e5,e6,f0,f1,f2,f3,f4,f5,f6⟩:=hS
  have hS6:=(show W6.cell? ⟨w.heap.size,0,none⟩=some (.int .i64 za.k)∧W6.cell? ⟨w.heap.size,1,none⟩=some (.int .i64 za.t)∧W6.cell? ⟨w.heap.size,2,none⟩=some (.slice zuA zuN zuC)∧W6.cell? ⟨w.heap.size,3,none⟩=some (.slice zpA zpN zpC)∧W6.cell? ⟨w.heap.size,4,none⟩=some (.bool za.h)∧W6.cell? ⟨w.heap.size,5,none⟩=some (.int .u64 (zn:Int))∧W6.cell? ⟨w.heap.size,6,none⟩=some (.slice (some ⟨g0,o0,s0⟩) 2 zxC)∧W6.cell? ⟨g0,o0,s0⟩=some (.int .i64 ea.k)∧W6.cell? ⟨g0,o0+1,none⟩=some (.int .i64 ea.t)∧W6.cell? ⟨g0,o0+2,none⟩=some (.slice euA euN euC)∧W6.cell? ⟨g0,o0+3,none⟩=some (.slice epA epN epC)∧W6.cell? ⟨g0,o0+4,none⟩=some (.bool ea.h)∧W6.cell? ⟨g0,o0+5,none⟩=some (.int .u64 (en:Int))∧W6.cell? ⟨g0,o0+6,none⟩=some (.slice exA exN exC)∧W6.cell? ⟨g0,o0+7,none⟩=some (.int .i64 fa.k)∧W6.cell? ⟨g0,o0+7+1,none⟩=some (.int .i64 fa.t)∧W6.cell? ⟨g0,o0+7+2,none⟩=some (.slice fuA fuN fuC)∧W6.cell? ⟨g0,o0+7+3,none⟩=some (.slice fpA fpN fpC)∧W6.cell? ⟨g0,o0+7+4,none⟩=some (.bool fa.h)∧W6.cell? ⟨g0,o0+7+5,none⟩=some (.int .u64 (fn:Int))∧W6.cell? ⟨g0,o0+7+6,none⟩=some (.slice fxA fxN fxC) from⟨hk7.cell_any (by show w.heap.size≠w.heap.size+1;omega) z0,hk7.cell_any (by show w.heap.size≠w.heap.size+1;omega) z1,hk7.cell_any (by show w.heap.size≠w.heap.size+1;omega) z2,hk7.cell_any (by show w.heap.size≠w.heap.size+1;omega) z3,hk7.cell_any (by show w.heap.size≠w.heap.size+1;omega) z4,hk7.cell_any (by show w.heap.size≠w.heap.size+1;omega) z5,hk7.cell_any (by show w.heap.size≠w.heap.size+1;omega) z6,hk7.cell_any (by show g0≠w.heap.size+1;have:=HKP.out.2;omega) e0,hk7.cell_any (by show g0≠w.heap.size+1;have:=HKP.out.2;omega) e1,hk7.cell_any (by show g0≠w.heap.size+1;have:=HKP.out.2;omega) e2,hk7.cell_any (by show g0≠w.heap.size+1;have:=HKP.out.2;omega) e3,hk7.cell_any (by show g0≠w.heap.size+1;have:=HKP.out.2;omega) e4,hk7.cell_any (by show g0≠w.heap.size+1;have:=HKP.out.2;omega) e5,hk7.cell_any (by show g0≠w.heap.size+1;have:=HKP.out.2;omega) e6,hk7.cell_any (by show g0≠w.heap.size+1;have:=HKP.out.2;omega) f0,hk7.cell_any (by show g0≠w.heap.size+1;have:=HKP.out.2;omega) f1,hk7.cell_any (by show g0≠w.heap.size+1;have:=HKP.out.2;omega) f2,hk7.cell_any (by show g0≠w.heap.size+1;have:=HKP.out.2;omega) f3,hk7.cell_any (by show g0≠w.heap.size+1;have:=HKP.out.2;omega) f4,hk7.cell_any (by show g0≠w.heap.size+1;have:=HKP.out.2;omega) f5,hk7.cell_any (by show g0≠w.heap.size+1;have:=HKP.out.2;omega) f6⟩)
  clear z0 z1 z2 z3 z4 z5 z6 e0 e1 e2 e3 e4 e5 e6 f0 f1 f2 f3 f4 f5 f6;refine hK.out _ _ hS6 (fun hS=>?_);clear hK K hS6 hW6
  try simp only[Act.put,A7]
  refine tk9 (i:=11) (v:=?v10) rfl (Or.inl ⟨by rfl,?hy10⟩) hS ?rest10
  case hy10=>(intro w hSw;obtain⟨z0,z1,z2,z3,z4,z5,z6,e0,e1,e2,e3,e4,e5,e6,f0,f1,f2,f3,f4,f5,f6⟩:=hSw;go_simp;try with_reducible rfl)
  try simp only[Act.put]
  refine wpAnyH_done (by kernel_rfl) ?_ _
  clear hS;go_wp2_with fail;refine bodyPost_ret (v:=.tuple #[.agg (.int .i64 za.k::.int .i64 za.t::.slice zuA zuN zuC::.slice zpA zpN zpC::.bool za.h::.int .u64 (zn:Int)::.slice (some ⟨g0,o0,s0⟩) 2 zxC::.int .i64 0::.int .i64 0::.slice none 0 0::.slice none 0 0::.bool false::.int .u64 0::.slice none 0 0::.int .i64 ea.k::.int .i64 ea.t::.slice euA euN euC::.slice epA epN epC::.bool ea.h::.int .u64 (en:Int)::.slice exA exN exC::.int .i64 fa.k::.int .i64 fa.t::.slice fuA fuN fuC::.slice fpA fpN fpC::.bool fa.h::.int .u64 (fn:Int)::.slice fxA fxN fxC::.int .i64 0::.int .i64 0::.slice none 0 0::.slice none 0 0::.bool false::.int .u64 0::.slice none 0 0::[]).toArray,true]) (M0 rfl rfl rfl hl) rfl ?_
  have hq:∀k,T k→k<W0.heap.size→W6.heap[k]?=W0.heap[k]?∧T k:=fun k hk hlt=>⟨hk6.same k hlt (fun e=>by subst e;exact HT.out hk),hk⟩
  exact .inl ⟨⟨za,zuA,zuN,zuC,zpA,zpN,zpC,zn,some ⟨g0,o0,s0⟩,2,zxC⟩,Nd.zero,⟨ea,euA,euN,euC,epA,epN,epC,en,exA,exN,exC⟩,⟨fa,fuA,fuN,fuC,fpA,fpN,fpC,fn,fxA,fxN,fxC⟩,Nd.zero,by unfold Id.apart Id.alone;rw[HK.out];rfl,rfl,⟨HZ.out.keep hk6.size hq,HE.out.keep hk6.size hq,HF.out.keep hk6.size hq,fun h=>absurd rfl h⟩,hb6⟩
 ·have hne:((za.ks.length:Int) != 2)=true:=by simp;omega
  obtain⟨kl,hkl⟩:∃kl,kl=za.ks.length:=⟨_,rfl⟩
  have HNO:=J1 (show Id.apart 1 za=none from by
   show Id.alone za=none
   unfold Id.alone
   split
   ·rename_i hk;rw[hk]at h2;exact absurd rfl h2
   ·rfl)
  rw[←hkl]at l0 HW hne ⊢;have z6:=l0.c 6 rfl;clear hz hT hb0 hW0 l0 l1 h2 hkl HZ HT;go_enter Tryz.func68,Tryz.ntmps68
  go_upto_region 1 with(fail)
  rw[←HW.out]
  go_upto_region 2 with(fail)
  go_step
  go_step
  go_step
  go_step
  refine wpList_store_mid rfl 123 _ _ rfl (w.heap.size+1) 0 z35.toArray rfl rfl (Lies.there (W:=W0) (cs:=z35) HL1.out rfl) (by kernel_rfl) (by rw[←G0];rfl) ?_
  obtain⟨W6,hW6⟩:∃W6,W6=setCells W0 (w.heap.size+1) 0 z35:=⟨_,rfl⟩;rw[L6];rw[←hW6]
  obtain⟨hl,hb6,hk6,hq6,hk7⟩:=L9 (P:=Tryz.prog) (L:=z35) (W:=W0) HL1.out rfl Tryz.underlying123 rfl (by kernel_rfl) HB0.out (Nat.le_succ _) hW6
  clear hW6;go_wp2_with fail;exact bodyPost_ret (v:=.tuple #[.agg z35.toArray,false]) (M0 rfl rfl rfl hl) rfl (.inr ⟨HNO.out,rfl,hb6⟩)
end Go.Proofs.YtbddhkgbpjhhaaaGreatDoor
