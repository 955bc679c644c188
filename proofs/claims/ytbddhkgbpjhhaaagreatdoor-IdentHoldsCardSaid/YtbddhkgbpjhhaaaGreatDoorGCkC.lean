/-
  LAID TOGETHER, BY PROGRAM, of: Cks, Cku, Ckv, Ckw, Ckx, Cky, QvCame.
-/
import Derived.Test.YtbddhkgbpjhhaaaGreatDoorGCkA
import Derived.Test.YtbddhkgbpjhhaaaGreatDoorGCkB
import Derived.Test.YtbddhkgbpjhhaaaGreatDoorGTreeA
import Derived.Test.YtbddhkgbpjhhaaaGreatDoorGTreeB
import Derived.Test.YtbddhkgbpjhhaaaGreatDoorGCame
import Derived.Maps.OwnIn
import Derived.Maps.Views
import Derived.WalkMore
import Derived.WalkArith
import Derived.Deep.RegionHeld3
set_option maxHeartbeats 25600000
set_option maxRecDepth 100000
namespace Go.Proofs.YtbddhkgbpjhhaaaGreatDoor
open Go.RowKit Go.Shelf Go.Maps
attribute [local go_sem] Oper.semAt_some
def Tally (D:DataW Unit) (came:List Int):Prop:=∀t:Int,D.atKey (.int .i64 t) (.lit (.int .i64 0))=.lit (.int .i64 ((came.count t:Nat):Int))
theorem Tally.nil:Tally (.map []) []:=fun t=>by simp[DataW.atKey]
theorem Tally.put {D:DataW Unit} {came:List Int} (h:Tally D came) (hD:IsMap D) (t:Int):Tally (D.put (.int .i64 t) (.lit (.int .i64 ((came.count t:Nat)+1)))) (came++[t]):=by
 intro z
 by_cases hz:z=t
 ·subst hz
  rw[atKey_put_same hD (show WideAt.IsKeyLit (.int .i64 z) from trivial)]
  simp
 ·rw[atKey_put_other (fun e=>hz (by cases e;rfl)),h z]
  rw[List.count_append,List.count_singleton]
  have:(t == z)=false:=by simp;exact fun e=>hz e.symm
  rw[this];simp
theorem A5O {w W5:World} {tq te ti tm:TypeId} {cq ce ci cm:List Value} {P:Program} {K:TypeId} {R:Value→Option (DataW Unit × List MemPlace)} (h:W5=((((w.alloc (.cells cq.toArray tq)).alloc (.map #[] 0)).alloc (.cells ce.toArray te)).alloc (.cells ci.toArray ti)).alloc (.cells cm.toArray tm)) :
  Lies W5 w.heap.size tq cq∧W5.ownsMap P K R (w.heap.size+1) 0 (.map [])∧Lies W5 (w.heap.size+1+1) te ce∧Lies W5 (w.heap.size+1+1+1) ti ci∧Lies W5 (w.heap.size+1+1+1+1) tm cm∧Below w w W5∧W5.heap.size=w.heap.size+5:=by
 have l2:=Lies.new ((w.alloc (.cells cq.toArray tq)).alloc (.map #[] 0)) te ce;have l3:=Lies.new (((w.alloc (.cells cq.toArray tq)).alloc (.map #[] 0)).alloc (.cells ce.toArray te)) ti ci;have l4:=Lies.new ((((w.alloc (.cells cq.toArray tq)).alloc (.map #[] 0)).alloc (.cells ce.toArray te)).alloc (.cells ci.toArray ti)) tm cm;have hm:=World.ownsMap_made (w.alloc (.cells cq.toArray tq)) P K R;simp only[J2]at l2 l3 l4 hm;rw[h]
 exact⟨((((Lies.new w tq cq).alloc _).alloc _).alloc _).alloc _,((hm.alloc _).alloc _).alloc _,(l2.alloc _).alloc _,l3.alloc _,l4,((((J6 w _).alloc (by simp) _).alloc (by simp;omega) _).alloc (by simp;omega) _).alloc (by simp;omega) _,by simp⟩
structure TkF (w:World) (N:Nat) (qc:List Value) (e cj:Int) (came:List Int) (O:Nat→Prop) (W:World):Prop where
 box:Lies W w.heap.size 28 qc
 er:Lies W (w.heap.size+1+1) 34 [e]
 co:Lies W (w.heap.size+1+1+1) 3 [cj]
 mp:Lies W (w.heap.size+1+1+1+1) 110 [.map (some (w.heap.size+1))]
 own:∃D,W.ownsMap Tryz.prog 3 (plainElem (H:=Unit) Tryz.prog 3) (w.heap.size+1) came.length D∧Tally D came
 oo:∀k,O k↔(k=w.heap.size+1∨k=w.heap.size+1+1∨k=w.heap.size+1+1+1)
 size:N≤W.heap.size
 below:Below w w W
theorem A0l {H:Type} {w w':World} {P:Program} {k:TypeId} {R:Value→Option (DataW H × List MemPlace)} {b n:Nat} {D:DataW H} (h:w.ownsMap P k R b n D) (hb:w'.heap[b]?=w.heap[b]?):w'.ownsMap P k R b n D:=by
 obtain⟨es,clock,h1,h2⟩:=h;exact⟨es,clock,hb.trans h1,h2⟩
theorem TkF.keep {w:World} {N:Nat} {qc:List Value} {e cj:Int} {came:List Int} {O:Nat→Prop} {A C:World} (hN:w.heap.size+5<N) (h:TkF w N qc e cj came O A) (hk:Keeps (fun k=>O k∨WalkT (N+2) k) A C):TkF w N qc e cj came O C:=by
 have hs:=h.size
 have hl:∀k,k<N→C.heap[k]?=A.heap[k]?:=fun k hlt=>hk.same k (by omega) (.inr (.inl (by omega)))
 obtain⟨D,h1,h2⟩:=h.own
 exact⟨(hl _ (by omega)).trans h.box,(hl _ (by omega)).trans h.er,(hl _ (by omega)).trans h.co,(hl _ (by omega)).trans h.mp,⟨D,A0l h1 (hl _ (by omega)),h2⟩,h.oo,D5 hs hk.size,h.below.trans ⟨hk.os,hk.tape,hk.output,hk.size,fun k hlt=>hl k (by omega)⟩⟩
theorem TkF.turn {w:World} {N:Nat} {qc:List Value} {e cj:Int} {came:List Int} {O:Nat→Prop} {A C:World} (hN:w.heap.size+5<N) (h:TkF w N qc e cj came O A) (hk:Below A A C):TkF w N qc e cj came O C:=h.keep hN (A0f hk)
theorem TkF.sete {w:World} {N:Nat} {qc:List Value} {e cj:Int} {came:List Int} {O:Nat→Prop} {A:World} (h:TkF w N qc e cj came O A) (z:Int):TkF w N qc z cj came O (A.setCell ⟨w.heap.size+1+1,0,none⟩ (.int .i64 z)):=by
 obtain⟨D,h1,h2⟩:=h.own
 refine⟨h.box.far (by show _≠w.heap.size+1+1;omega) _,h.er.set 0 _,h.co.far (by show _≠w.heap.size+1+1;omega) _,h.mp.far (by show _≠w.heap.size+1+1;omega) _,⟨D,A0l h1 (Below.heap_setCell _ _ _ _ (by show _≠w.heap.size+1+1;omega)),h2⟩,h.oo,by simpa[World.setCell]using h.size,?_⟩
 exact h.below.setCell (by show w.heap.size≤w.heap.size+1+1;omega) _
theorem TkF.setc {w:World} {N:Nat} {qc:List Value} {e cj:Int} {came:List Int} {O:Nat→Prop} {A:World} (h:TkF w N qc e cj came O A) (z:Int):TkF w N qc e z came O (A.setCell ⟨w.heap.size+1+1+1,0,none⟩ (.int .i64 z)):=by
 obtain⟨D,h1,h2⟩:=h.own
 refine⟨h.box.far (by show _≠w.heap.size+1+1+1;omega) _,h.er.far (by show _≠w.heap.size+1+1+1;omega) _,h.co.set 0 _,h.mp.far (by show _≠w.heap.size+1+1+1;omega) _,⟨D,A0l h1 (Below.heap_setCell _ _ _ _ (by show _≠w.heap.size+1+1+1;omega)),h2⟩,h.oo,by simpa[World.setCell]using h.size,?_⟩
 exact h.below.setCell (by show w.heap.size≤w.heap.size+1+1+1;omega) _
theorem TkF.putm {w:World} {N:Nat} {qc:List Value} {e cj:Int} {came:List Int} {O:Nat→Prop} {A C:World} {D:DataW Unit} {t:Int} (hN:w.heap.size+5<N) (h:TkF w N qc e cj came O A) (ho:C.ownsMap Tryz.prog 3 (plainElem (H:=Unit) Tryz.prog 3) (w.heap.size+1) (came.length+1) D) (ht:Tally D (came++[t]))
  (hg:A.grownBy C (some (w.heap.size+1))):TkF w N qc e cj (came++[t]) O C:=by
 have hs:=h.size
 have hl:∀k,k<N→k≠w.heap.size+1→C.heap[k]?=A.heap[k]?:=fun k hlt hne=>hg.block k (by omega) (fun e=>hne (F0 e))
 exact⟨(hl _ (by omega) (by omega)).trans h.box,(hl _ (by omega) (by omega)).trans h.er,(hl _ (by omega) (by omega)).trans h.co,(hl _ (by omega) (by omega)).trans h.mp,⟨D,by rw[C6,List.length_singleton];exact ho,ht⟩,h.oo,D5 hs hg.size,h.below.trans ⟨hg.os,hg.tape,hg.output,hg.size,fun k hlt=>hl k (by omega) (by omega)⟩⟩
theorem Y0 {O:Nat→Prop} {A B:World} {b:Nat} (h:Keeps (fun k=>¬O k) A B) (hb:O b) (v:Value):Keeps (fun k=>¬O k) A (B.setCell ⟨b,0,none⟩ v):=h.setCell v (.inl (fun e=>e hb))
theorem A0y {O:Nat→Prop} {A B C:World} (h:Keeps (fun k=>¬O k) A B) (hb:Below B B C):Keeps (fun k=>¬O k) A C:=h.trans (A0f hb)
theorem A2N {O:Nat→Prop} {A B C:World} {b:Nat} (h:Keeps (fun k=>¬O k) A B) (hb:O b) (hg:B.grownBy C (some b)):Keeps (fun k=>¬O k) A C:=h.trans ⟨hg.os,hg.tape,hg.output,hg.size,fun k hlt hs=>hg.block k hlt (fun e=>hs ((F0 e) ▸ hb))⟩
theorem Ck.what_bad {cols:List Int} {t:Tr} {c:Nat} (h:Ck.alone cols.length t (c+t.cs.length)≠0):Ck.what cols t c=Ck.alone cols.length t (c+t.cs.length):=by unfold Ck.what;rw[if_pos h]
theorem Ck.what_leaf {cols:List Int} {t:Tr} {c:Nat} (h:Ck.alone cols.length t (c+t.cs.length)=0) (hk:t.k=0):Ck.what cols t c=0:=by unfold Ck.what;rw[if_neg (not_not_intro h),if_pos hk]
theorem Ck.what_op {cols:List Int} {t:Tr} {c:Nat} (h:Ck.alone cols.length t (c+t.cs.length)=0) (hk:t.k≠0):Ck.what cols t c=Ck.conjs cols (Ck.ksn t 0) (Ck.ksn t 1) t.cs:=by unfold Ck.what;rw[if_neg (not_not_intro h),if_neg hk]
theorem Ck.run_len (cols:List Int) (l:List Tr):∀came c,(Ck.run cols l came c).2.length≤came.length+l.length:=by
 induction l with
 | nil=>intro came c;simp[Ck.run]
 | cons t r ih =>
  intro came c;rw[Ck.run]
  split
  ·simp
  ·have:=ih (Ck.comes t came) (c+t.cs.length)
   have h2:(Ck.comes t came).length≤came.length+1:=by unfold Ck.comes;split <;> simp
   rw[G5];omega
theorem A0X {α:Type} {B:Nat} {I:List α→(Nat→Prop)→World→Prop} {Ix:Code→List α→(Nat→Prop)→World→Prop} {xs:List α} {O:Nat→Prop} {W W':World} {a:Act} (h:∃O',I xs O' W'∧ChgFrom B O W O' W'):sepFrom B I Ix xs O W .normal a W':=h
theorem A37:Keyed Tryz.prog 3:=int_keyed Tryz.underlying3
theorem A9H (w:World):(zeroValue 3).run Tryz.prog w=.ok (.int .i64 0) w:=by kernel_rfl
theorem A47 (a:Tr) (cols:List Int) (C:Option Addr) (n cc:Nat) (u v:Value) (w:World) (hc:Sl w (.slice C n cc) (cols.map (Value.int .i64))) (hn:cols.length≤64) (hu:∃d,TsAt d w u a.ks) (hv:PsSome w v a.cs) (hsz:Tr.size a≤1000) :
  Calls Tryz.prog 33 #[.agg #[.slice C n cc,a.k,a.t,u,v,a.h]] w
   fun e w'=>e=.returned (.int .i64 (Ck.tour cols a))∧Below w w w':=by
 refine(callsIn_wide (n:=9)).1 ?_;obtain⟨A,c,hA,hl⟩:=hu.elim fun d h=>h.form;obtain⟨A',c',hA',hl'⟩:=hv.elim fun d h=>h.form;subst hA hA';have hmm:=@run_makeMap Tryz.prog;obtain⟨W5,hW5⟩:∃W5,W5=((((w.alloc (Obj.cells #[.slice C n cc,a.k,a.t,.slice A a.ks.length c,.slice A' a.cs.length c',a.h] 28)).alloc (.map #[] 0)).alloc (.cells #[z9] 34)).alloc (.cells #[z9] 3)).alloc (.cells #[.map (some (w.heap.size+1))] 110):=⟨_,rfl⟩;obtain⟨lq,hom,le,lc,lm,hb5,hs5⟩:=A5O (cq:=[.slice C n cc,a.k,a.t,.slice A a.ks.length c,.slice A' a.cs.length c',a.h]) (ce:=[z9]) (ci:=[z9]) (cm:=[.map (some (w.heap.size+1))]) (P:=Tryz.prog) (K:=3) (R:=plainElem (H:=Unit) Tryz.prog 3) hW5;have cw:=A7J a _ _ W5 (hu.elim fun d h=>⟨d,h.below hb5 (C3 _)⟩) (hv.below hb5 (C3 _)) hsz;have x0:=lq.c 0 rfl;have x1:=lq.c 1 rfl;have x2:=lq.c 2 rfl;have x3:=lq.c 3 rfl;have x4:=lq.c 4 rfl;have x5:=lq.c 5 rfl;have HW:=J1 hW5;clear hu hv hW5;refine callsIn_of_wp_marks Tryz.func33 rfl trivial ?_ rfl;simp only[Tryz.ntmps33,List.size_toArray,G5,List.length_nil,Nat.reduceAdd,Nat.reduceSub,Array.replicate_succ,Array.replicate_zero,List.push_toArray,List.append_toArray,F1,G8]
 gi_wp2_with fail
 refine wpIn_wide.2 (wp_scope_straight ((wpIn_wide (n:=9)).1 ?_))
 gi_wp2_with fail
 refine wpIn_label ?_;rw[←HW.out];clear hmm
 gi_wp2_with fail
 refine⟨trivial,(callsIn_wide.2 cw).mono ?_⟩;rintro e w6 ⟨u6,v6,rfl,hcell,hon,hb6⟩;clear cw x0 x1 x2 x3 x4 x5
 gi_wp2_with fail
 obtain⟨N,hNN⟩:∃N,N=w6.heap.size:=⟨_,rfl⟩;rw[hs5]at hcell hon
 have hN:w.heap.size+5<N:=by have:=block_lt_of_cell hcell.c0;simp at this;omega
 have hb06:Below w w w6:=J5 hb5 hb6
 obtain⟨Bb,cb,rfl,_⟩:∃B c,u6=.slice B a.ks.length c∧True:=by
  obtain⟨B,c,h,_⟩:=hon.1.elim fun d h=>h.at_.form;exact⟨B,c,h,trivial⟩
 obtain⟨Bc,cq,rfl,_⟩:∃B c,v6=.slice B a.cs.length c∧True:=by
  obtain⟨B,c,h,_⟩:=hon.2.elim fun d h=>h.at_.form;exact⟨B,c,h,trivial⟩
 have hon5:TrOn (fun k=>w.heap.size+5<k∧k<N) w6 (a,.slice Bb a.ks.length cb,.slice Bc a.cs.length cq):=hon.keep (C3 _) fun k hk hlt=>⟨rfl,by omega,by omega⟩
 obtain⟨qc,hqc⟩:∃qc:List Value,qc=[.slice C n cc,.int .i64 a.k,.int .i64 a.t,.slice A a.ks.length c,.slice A' a.cs.length c',.bool a.h]:=⟨_,rfl⟩
 have hI0:TkF w N qc 0 0 [] (fun k=>k=w.heap.size+1∨k=w.heap.size+1+1∨k=w.heap.size+1+1+1) w6:=by
  refine⟨by rw[hqc];exact lq.below hb6 lq.lt,le.below hb6 le.lt,lc.below hb6 lc.lt,lm.below hb6 lm.lt,⟨_,A0l hom (hb6.block _ (by omega)),Tally.nil⟩,fun _=>Iff.rfl,by omega,hb06⟩
 have HN:=J1 hN;have HQC:=J1 hqc;have HCW:=J1 hc;have HCN:=J1 hn;have HSZ:=J1 hsz;clear lq le lc lm hom hb5 hb6 hon hqc hc
 refine Z8 rfl (by omega) (gf:=98) (lb:=#[.pointer (some ⟨w.heap.size+5,0,none⟩)]) rfl trivial (enters_of Tryz.func98 (by kernel_rfl) rfl)
  (A56 4 (fun k=>w.heap.size+5<k∧k<N) w6 (fun k h=>by omega) (w.heap.size+5) a (.slice Bb a.ks.length cb) (.slice Bc a.cs.length cq) hon5 hsz) ?hpre ?hC ?hps ?hR
  (fun pre O W=>(Ck.run cols pre [] 0).1=0∧TkF w N qc 0 (Ck.many pre) (Ck.run cols pre [] 0).2 O W)
  (fun ec pre O W=>ec=.exit 0∧(Ck.run cols pre [] 0).1≠0∧∃cj,TkF w N qc (Ck.run cols pre [] 0).1 cj (Ck.run cols pre [] 0).2 O W) ?hI ?hIx ?hSD ?hIO (fun k=>k=w.heap.size+1∨k=w.heap.size+1+1∨k=w.heap.size+1+1+1) ?hO ⟨rfl,hI0⟩
  (fun B0 O1 W3 x vs a'=>∃q B1 e1 B2 e2,B0≤q∧vs=#[trV (x,.slice B1 x.ks.length e1,.slice B2 x.cs.length e2)]∧Lies W3 q 26 [x.k,x.t,.slice B1 x.ks.length e1,.slice B2 x.cs.length e2,x.h]∧N+2≤q∧a'={ tmps:=#[.agg #[.slice C n cc,a.k,a.t,.slice A a.ks.length c,.slice A' a.cs.length c',a.h],.pointer (some ⟨w.heap.size,0,none⟩),z9,.pointer (some ⟨w.heap.size+1+1,0,none⟩),.pointer (some ⟨w.heap.size+1+1+1,0,none⟩),.pointer (some ⟨w.heap.size+1+1+1+1,0,none⟩),.pointer (some ⟨q,0,none⟩),undef,undef,undef,undef,undef,undef,.map (some (w.heap.size+1)),.pointer (some ⟨w.heap.size,1,none⟩),.agg #[a.k,a.t,.slice A a.ks.length c,.slice A' a.cs.length c',a.h],.func (.func 98) #[] #[.pointer (some ⟨w.heap.size+5,0,none⟩)],trV (x,.slice B1 x.ks.length e1,.slice B2 x.cs.length e2),undef,undef,undef,undef,undef,undef,undef,undef,undef,undef,undef,undef,undef,undef,undef,undef,undef,undef,undef,undef,undef,undef,undef,undef,undef,undef,undef,undef,undef,undef,undef,undef,undef,undef,undef,undef,undef,undef,undef,undef,undef,undef,undef,undef,undef,undef,undef,undef,undef,undef,undef,undef,undef,undef,undef,undef],defers:=[] })
  ?hAx ?assign ?body ?done ?stop
 case hpre=>exact fun W3 hb h2=>⟨hcell.below hb (by show w.heap.size+5<w6.heap.size;omega),h2,fun k hk hlt=>hb.block k hlt⟩
 case hC =>
  intro k hk
  rcases hk with hk | hk <;> omega
 case hps=>rintro B O W x vs ⟨u,v,rfl,_⟩;rfl
 case hR =>
  rintro O O' W W' x vs hOL hOO hk ⟨u,v,rfl,hx⟩;exact⟨u,v,rfl,hx.keep hk.size fun k h1 h2=>⟨hk.same k h2 (fun e=>h1.1 (e ▸ hOL)),fun h=>h1.1 (hOO k h),h1.2⟩⟩
 case hI =>
  rintro pre O1 A B ⟨h0,h⟩ hk
  exact⟨h0,h.keep HN.out (hk.mono fun k hh=>hh.imp id fun hh=>⟨by rcases hh with hh | hh;exact .inl (by omega);exact .inr (by omega),by rcases hh with hh | hh <;> omega,by rcases hh with hh | hh <;> omega⟩)⟩
 case hIx =>
  rintro ec pre O1 A B ⟨hc,h0,cj,h⟩ hk
  exact⟨hc,h0,cj,h.keep HN.out (hk.mono fun k hh=>hh.imp id fun hh=>⟨by rcases hh with hh | hh;exact .inl (by omega);exact .inr (by omega),by rcases hh with hh | hh <;> omega,by rcases hh with hh | hh <;> omega⟩)⟩
 case hSD=>intro k hk;exact .inl (by omega)
 case hIO =>
  rintro pre O1 A ⟨_,h⟩ k hk;have:=h.size
  rcases(h.oo k).1 hk with e | e | e
  ·exact⟨by omega,by omega⟩
  ·exact⟨by omega,by omega⟩
  ·exact⟨by omega,by omega⟩
 case hO=>intro k hk;omega
 case hAx =>
  rintro B0 O1 A B x vs a' hk ⟨q,B1,e1,B2,e2,h1,h2,h3,h4,h5⟩
  exact⟨q,B1,e1,B2,e2,h1,h2,(hk.same q h3.lt (by omega)).trans h3,h4,h5⟩
 case assign =>
  rintro l2 x vs O3 W3 K hs hOl ⟨xu,xv,rfl,hx⟩ hK;obtain⟨⟨d1,hx1⟩,d2,hx2⟩:=hx;obtain⟨B1,e1,hB1,_⟩:=hx1.at_.form;obtain⟨B2,e2,hB2,_⟩:=hx2.at_.form;change xu=.slice B1 x.ks.length e1 at hB1;change xv=.slice B2 x.cs.length e2 at hB2;subst hB1 hB2
  rw[show(#[17]:Array Tmp).zip #[trV (x,.slice B1 x.ks.length e1,.slice B2 x.cs.length e2)]=#[(17,trV (x,.slice B1 x.ks.length e1,.slice B2 x.cs.length e2))] from by simp[List.zip_toArray]]
  have htb:=Lies.new W3 26 [x.k,x.t,.slice B1 x.ks.length e1,.slice B2 x.cs.length e2,x.h];have HK:=J1 hK;have HTB:=J1 htb
  have hs6:N+2≤W3.heap.size:=by omega
  clear hx1 hx2 hK htb
  gi_wp2
  exact HK.out _ _ (Keeps.alloc _ _ _) ⟨W3.heap.size,B1,e1,B2,e2,C3 _,rfl,HTB.out,hs6,rfl⟩
 case body =>
  rintro Wy l2 pre x vs O1 Wb a' hl2 hiy ⟨hrun,h⟩ hpx ⟨xu,xv,hvs,hxh⟩ hOy hsy hkn ⟨q,B1,e1,B2,e2,hqy,rfl,lq,hq6,rfl⟩
  obtain⟨rfl,rfl⟩:.slice B1 x.ks.length e1=xu∧.slice B2 x.cs.length e2=xv:=by
   simp only[trV,Array.mk.injEq,List.cons.injEq,Value.agg.injEq,and_true,true_and]at hvs;exact hvs
  rw[←hNN]at hxh
  have hnc:n=cols.length:=by
   obtain⟨C',c',hC,_⟩:=HCW.out;rw[E0]at hC;cases hC
   rfl
  have hrf:=Ck.run_fine hrun;have hkf:=fun i=>Ck.ksn_fine hpx hrf i
  have hm64:=Ck.run_many hrun (by omega)
  rw[G6]at hm64;have hsn:=Ck.run_snoc (t:=x) hrun;rw[G6]at hsn;have hsx:Tr.size x≤1000:=D5 (Tr.all_size (hpx.subset (List.mem_append_right _ (G4.2 rfl)))) HSZ.out;have hsx2:=Tr.size_at x;have hkl:=Tr.sizes_length x.ks;have hcl:=Pr.sizes_length x.cs
  have hcl2:x.cs.length≤1000:=by omega
  have hkl2:x.ks.length≤1000:=by omega
  have hps2:Pr.sizes x.cs≤1000:=by omega
  have hcame:(Ck.run cols pre [] 0).2.length≤1000:=by
   have h1:=Ck.run_len cols pre [] 0;have h2:=hpx.length_le;have h3:=Tr.all_length_le a;have h4:=HSZ.out
   simp at h1 h2
   omega
  have HCAME:=J1 hcame;clear hcame;have HHX:=J1 hxh;have HRUN:=J1 hrun;have HKF:=J1 hkf;have HSN:=J1 hsn;have HH:=J1 h;have HLQ:=J1 lq;have HNC:=J1 hnc;have HPS2:=J1 hps2;have HOY:=J1 hOy;have HSY:=J1 hkn.size;have HQY:=J1 hqy;obtain⟨mp,hmp⟩:∃mp,mp=Ck.many pre:=⟨_,rfl⟩;obtain⟨cl,hcl3⟩:∃cl,cl=x.cs.length:=⟨_,rfl⟩;obtain⟨kl,hkl3⟩:∃kl,kl=x.ks.length:=⟨_,rfl⟩;rw[←hmp]at h hm64;rw[←hcl3]at hcl2 lq ⊢;rw[←hkl3]at hkl2 lq ⊢;have HMP:=J1 hmp;have HCL:=J1 hcl3;have HKL:=J1 hkl3;have k0:=h.co.c 0 rfl;have kf:=h.co.free 0;have r0:=h.er.c 0 rfl;have rf:=h.er.free 0
  have b0:=h.box.cell (i:=0) (by rw[HQC.out];rfl)
  have q0:=lq.c 0 rfl;have q1:=lq.c 1 rfl;have q2:=lq.c 2 rfl;have q3:=lq.c 3 rfl;have q4:=lq.c 4 rfl
  have hq7:q≠w.heap.size+1+1+1:=by omega
  have hq8:q≠w.heap.size+1+1:=by omega
  have hq9:q≠w.heap.size+1:=by omega
  clear h lq hrun hrf hkf hsn hsx hsx2 hkl hcl hps2 hxh hvs hOy hkn hqy hsy hiy hpx hmp hcl3 hkl3 hI0 hon5 hcell hsz hb06 hnc;have ho1:O1 (w.heap.size+1):=(HH.out.oo _).2 (.inl rfl);have ho2:O1 (w.heap.size+1+1):=(HH.out.oo _).2 (.inr (.inl rfl));have ho3:O1 (w.heap.size+1+1+1):=(HH.out.oo _).2 (.inr (.inr rfl))
  have hqO:¬O1 q:=fun e=>by have:=HOY.out q e;have:=HQY.out;omega
  have HO:=J1 (J0 ho1 (J0 ho2 (J0 ho3 hqO)));obtain⟨al,hal⟩:∃al,al=Ck.alone n x (mp+cl):=⟨_,rfl⟩;obtain⟨W7,hW7⟩:∃W7,W7=Wb.setCell ⟨w.heap.size+1+1+1,0,none⟩ (.int .i64 ((mp:Int)+(cl:Int))):=⟨_,rfl⟩;have h7:=HH.out.setc ((mp:Int)+(cl:Int));rw[←hW7]at h7
  have k7:Keeps (fun k=>¬O1 k) Wb W7:=by rw[hW7];exact Y0 (Keeps.refl _ _) ho3 _
  have ca:=A7D x B1 kl e1 B2 cl e2 (mp+cl) n W7 HKL.out HCL.out (by omega) (by omega) (by omega) (by have:=HCN.out;have:=HNC.out;omega)
  rw[←hal,Int.natCast_add]at ca;have HAL:=J1 hal;have HW7:=J1 hW7;have H7:=J1 h7;have K7:=J1 k7;clear hal hW7 h7 k7 ho1 ho2 ho3 hqO
  gi_wp2_with fail
  rw[←HW7.out];refine⟨trivial,CallsIn.mono (F:=Fence.wide.inRound l2) (callsIn_wide.2 ca) ?_⟩;rintro e w8 ⟨rfl,hb8⟩;clear ca k0 kf r0 rf b0 q0 q1 q2 q3 q4;have h8:=H7.out.turn HN.out hb8;have k8:=A0y K7.out hb8;have r0:=h8.er.c 0 rfl;have rf:=h8.er.free 0;have H8:=J1 h8;have K8:=J1 k8;clear h8 k8 hb8
  by_cases hz:al=0
  ·subst hz;obtain⟨W9,hW9⟩:∃W9,W9=w8.setCell ⟨w.heap.size+1+1,0,none⟩ (.int .i64 0):=⟨_,rfl⟩;have h9:=H8.out.sete 0;rw[←hW9]at h9
   have k9:Keeps (fun k=>¬O1 k) Wb W9:=by rw[hW9];exact Y0 K8.out HO.out.2.1 _
   have l8:=(K8.out.same q HLQ.out.lt HO.out.2.2.2).trans HLQ.out;rw[←HKL.out,←HCL.out]at l8;have H9:=J1 h9;have K9:=J1 k9;have HW9:=J1 hW9;clear h9 k9 hW9
   by_cases hk:x.k=0
   ·have q0:=Lies.cell l8 (i:=0) rfl;have q1:=Lies.cell l8 (i:=1) rfl;rw[hk]at q0
    have hal0:Ck.alone cols.length x (Ck.many pre+x.cs.length)=0:=by rw[←HNC.out,←HMP.out,←HCL.out,←HAL.out]
    have hfx:=Ck.alone_fine hal0 hk;have hcn:=HCN.out
    have hwf:(Lit.int .i64 x.t).wf=true:=WalkArith.wf_i64 (by omega)
    have m0:=H8.out.mp.c 0 rfl;obtain⟨D,hown,htal⟩:=H9.out.own;have htx:=htal x.t;obtain⟨cm,hcm⟩:∃cm,cm=(Ck.run cols pre [] 0).2:=⟨_,rfl⟩;have hcml:=HCAME.out;rw[←hcm]at hown htal htx hcml;have hct:=List.count_le_length (a:=x.t) (l:=cm);obtain⟨ct,hctt⟩:∃ct,ct=cm.count x.t:=⟨_,rfl⟩;rw[←hctt]at htx hct
    have hct2:ct≤1000:=by omega
    have hwf2:(Lit.int .i64 ((ct:Int)+1)).wf=true:=WalkArith.wf_i64 (by omega)
    have hput:=htal.put (hown.tidy A37).isMap x.t;rw[←hctt]at hput;have HPUT:=J1 hput;have HTX:=J1 htx;have HCM:=J1 hcm
    have hlen:cm.length<maxLen:=by unfold maxLen;omega
    have hW:=J1 (show Ck.run cols (pre++[x]) [] 0=(0,cm++[x.t]) by
     have hr:=HSN.out
     rw[Ck.what_leaf hal0 hk,if_neg (by simp)]at hr
     rw[hr,hcm];unfold Ck.comes;rw[if_pos hk])
    have hmany:=J1 (show((Ck.many (pre++[x]):Nat):Int)=(mp:Int)+(cl:Int) by
     rw[Ck.many_snoc,←HMP.out,←HCL.out];push_cast;rfl)
    have HK:=J1 hk;have HL8:=J1 l8;have HLEN:=J1 hlen;have HWF:=J1 hwf;have HWF2:=J1 hwf2;have HOWN:=J1 hown;clear hcm hctt hput htx htal hal0 hk l8 hlen hwf hwf2 hown hct
    gi_wp2_with (first
     | (gi_at_lookup;rw[←HW9.out];refine wpListIn_lookup_own_int _ rfl _ _ 110 rfl 3 3 .i64 A37 Tryz.underlying110 Tryz.underlying3 (A9H _) (w.heap.size+1) _ D rfl HOWN.out _ _ rfl (keyOf_int_mk Tryz.underlying3 HWF.out) ?_;intro cv hat hwc;obtain rfl:cv=(ct:Int):=(by have e:=hat.symm.trans HTX.out;simp only[DataW.lit.injEq,Lit.int.injEq,true_and]at e;exact e))
     | (gi_at_mapUpdate;refine wpListIn_mapUpdate_own _ rfl _ _ _ 110 rfl 3 3 A37 Tryz.underlying110 _ (w.heap.size+1) _ D rfl HOWN.out HLEN.out _ _ _ rfl rfl (keyOf_int_mk Tryz.underlying3 HWF.out) _ [] (plainElem_int Tryz.underlying3 HWF2.out) ?_;intro w10 hown1 hgrow1))
    have h9:=H9.out;rw[←HCM.out]at h9
    exact A0X ⟨O1,⟨by rw[hW.out],by
     show TkF w N qc 0 ((Ck.many (pre++[x]):Nat):Int) (Ck.run cols (pre++[x]) [] 0).2 O1 w10
     rw[hW.out,hmany.out];exact h9.putm HN.out hown1 HPUT.out hgrow1⟩,⟨(A2N K9.out HO.out.1 hgrow1).mono fun k hk=>hk.1,fun _ _ h=>h⟩⟩
   ·have hk':(x.k == 0)=false:=by simpa using hk
    have hal0:Ck.alone cols.length x (Ck.many pre+x.cs.length)=0:=by rw[←HNC.out,←HMP.out,←HCL.out,←HAL.out]
    obtain⟨hk2,_,_,_,_⟩:=Ck.alone_kids hal0 hk
    obtain⟨ya,yb,hks⟩:∃ya yb,x.ks=[ya,yb]:=by
     match hkk:x.ks with
     | []=>rw[hkk]at hk2;simp at hk2
     | [_]=>rw[hkk]at hk2;simp at hk2
     | [ya,yb]=>exact⟨ya,yb,rfl⟩
     | _::_::_::_=>rw[hkk]at hk2;simp at hk2
    have hT9:=(HHX.out.keep K9.out.size (fun k h hlt=>⟨K9.out.same k hlt h.1,h⟩)).hang;obtain⟨dt,hts⟩:=hT9.1;change TsAt dt W9 (.slice B1 x.ks.length e1) x.ks at hts
    obtain⟨e6,b6,o6,s6,u6,v6,_,hA6,hb6l,hX⟩:=hts.at_ (j:=0) (a:=ya) (by rw[hks];rfl)
    obtain⟨e8,b8,o8,s8,u8,v8,_,hA8,_,hY⟩:=hts.at_ (j:=1) (a:=yb) (by rw[hks];rfl)
    subst hA6
    obtain⟨rfl,rfl,rfl⟩:b6=b8∧o6=o8∧s6=s8:=by
     simp only[Option.some.injEq,Addr.mk.injEq]at hA8;exact hA8
    have hadd:(⟨b6,o6,s6⟩:Addr).add (1*5)=⟨b6,o6+5,none⟩:=by unfold Addr.add;simp
    simp only[Nat.zero_mul,R3]at hX;simp only[hadd]at hY
    have hkl2':kl=2:=by rw[HKL.out];exact hk2
    subst hkl2'
    have l9:Lies W9 q 26 [x.k,x.t,.slice (some ⟨b6,o6,s6⟩) 2 e1,.slice B2 cl e2,x.h]:=(K9.out.same q HLQ.out.lt HO.out.2.2.2).trans (by have:=HLQ.out;rw[←HKL.out,←HCL.out]at this;exact this)
    have CA:=J1 (fun W (h:Below W9 W9 W)=>(Z9q _ ya _ _ W (hX W h).2.2 (hX W h).2.1).mono fun e w' ⟨he,hb⟩=>(⟨he,J5 h hb⟩:e=Ending.returned (.int .u64 (Tr.seen ya:Nat))∧Below W9 W9 w'));have CB:=J1 (fun W (h:Below W9 W9 W)=>(Z9q _ yb _ _ W (hY W h).2.2 (hY W h).2.1).mono fun e w' ⟨he,hb⟩=>(⟨he,J5 h hb⟩:e=Ending.returned (.int .u64 (Tr.seen yb:Nat))∧Below W9 W9 w'));have HX:=J1 (fun W h=>(hX W h).1);have HY:=J1 (fun W h=>(hY W h).1);have HL9:=J1 l9
    have e0:Ck.ksn x 0=Tr.seen ya:=by unfold Ck.ksn;rw[hks];rfl
    have e1':Ck.ksn x 1=Tr.seen yb:=by unfold Ck.ksn;rw[hks];rfl
    have hlr:∀j,(Tr.seen ya ||| Tr.seen yb).testBit j=true→j<cols.length:=fun j hj=>by
     rw[G7,Bool.or_eq_true]at hj
     rcases hj with hj | hj
     ·exact HKF.out 0 j (by rw[e0];exact hj)
     ·exact HKF.out 1 j (by rw[e1'];exact hj)
    have hwh:=Ck.what_op hal0 hk;rw[e0,e1']at hwh;have HWH:=J1 hwh;have HLR:=J1 hlr;have HKN:=J1 hk;have q0:=Lies.cell l8 (i:=0) rfl;clear hk hal0 hk2 hks hT9 hts hb6l hX hY hA8 hadd l9 e0 e1' hlr hwh l8
    gi_wp2_with fail
    rw[←HW9.out];clear r0 rf q0
    refine A3U rfl rfl rfl rfl rfl rfl rfl rfl rfl rfl rfl rfl rfl rfl rfl rfl rfl rfl rfl rfl rfl rfl rfl rfl rfl rfl rfl rfl rfl rfl rfl rfl rfl rfl rfl rfl rfl rfl rfl rfl rfl rfl rfl rfl rfl rfl rfl rfl rfl (by decide +kernel) (by decide +kernel) _ q rfl (by simp) W9 ya yb b6 o6 e1 s6 u6 v6 u8 v8
     (fun W h=>(HL9.out.below h HL9.out.lt).c 2 rfl) HX.out HY.out CA.out CB.out ?_
    intro W10 hb10;simp only[puts,seenA,seenB,List.foldl_cons,List.foldl_nil,A7,C4,C5];have h10:=H9.out.turn HN.out hb10;have k10:=A0y K9.out hb10;have q3:=(HL9.out.below hb10 HL9.out.lt).c 3 rfl;have K10:=J1 k10;have H10:=J1 h10
    have HMANY:=J1 (show((Ck.many (pre++[x]):Nat):Int)=(mp:Int)+(cl:Int) by
     rw[Ck.many_snoc,←HMP.out,←HCL.out];push_cast;rfl)
    clear h10 k10 hb10
    gi_wp2_with fail
    clear q3
    gi_loopw [52] (fun i wr=>∃z:Nat,z≤cl∧i=.int .i64 z∧Hid (Ck.conjs cols (Tr.seen ya) (Tr.seen yb) (x.cs.take z)=0)∧Hid (TkF w N qc 0 ((mp:Int)+(cl:Int)) (Ck.run cols pre [] 0).2 O1 wr)∧Keeps (fun k=>¬O1 k) Wb wr) (fun i _=>cl-(intOf i).toNat)
    case atStart=>exact⟨0,E3 _,rfl,J1 (by simp[Ck.conjs]),H10,K10.out⟩
    case round =>
     obtain⟨z,hz,rfl,hno,htk,hkr⟩:=hrel
     by_cases hlt:z<cl
     ·obtain⟨p,gp⟩:∃p,x.cs[z]?=some p:=⟨x.cs[z]'(by have:=HCL.out;omega),A8 _⟩
      have hTr:=(HHX.out.keep hkr.size (fun k h hlt=>⟨hkr.same k hlt h.1,h⟩)).hang;obtain⟨dv,hvv⟩:=hTr.2;change PsAt dv wr (.slice B2 x.cs.length e2) x.cs at hvv;obtain⟨e5,b5,o5,s5,u5,_,hA5,_,hP5⟩:=hvv.at_ gp;subst hA5;obtain⟨⟨y0,y1,y2,y3,y4,y5,y6,y7,y8,y9,y10,y11,y12,y13⟩,hps5⟩:=hP5 wr (Below.refl _ _);obtain⟨B5,d5,rfl,_⟩:=hps5.form;have hbn:=J6 wr (Obj.cells #[p.f.k,p.f.u,p.f.o,p.f.a.k,p.f.a.t,p.f.a.c,p.f.a.z,p.f.a.n,p.f.b.k,p.f.b.t,p.f.b.c,p.f.b.z,p.f.b.n,.slice B5 p.ps.length d5] 57);obtain⟨r,hr⟩:∃r,r=Ck.conj cols (Tr.seen ya) (Tr.seen yb) (.mk p.f p.ps):=⟨_,rfl⟩
      have ccj:=A3D e5 p.f (.slice B5 p.ps.length d5) p.ps (.slice C n cc) cols (Tr.seen ya) (Tr.seen yb) (wr.alloc (Obj.cells #[p.f.k,p.f.u,p.f.o,p.f.a.k,p.f.a.t,p.f.a.c,p.f.a.z,p.f.a.n,p.f.b.k,p.f.b.t,p.f.b.c,p.f.b.z,p.f.b.n,.slice B5 p.ps.length d5] 57)) (hps5.below hbn (C3 _)) (HCW.out.below (htk.out.below.trans (M9 hbn htk.out.below.size)) (C3 _)) (Tr.seen_lt ya) (Tr.seen_lt yb) HLR.out (by have:=Pr.sizes_down gp;have:=HPS2.out;omega)
      rw[←hr]at ccj
      have hpm:Pd.mk p.f p.ps=p:=by cases p;rfl
      rw[hpm]at hr;obtain⟨hgo,hstop⟩:=Ck.conjs_take hno.out gp;rw[←hr]at hgo hstop;have HGO:=J1 hgo;have HST:=J1 hstop;have HBN:=J1 hbn;have HKR:=J1 hkr;have HGP:=J1 gp
      have b0:=(htk.out.box.below hbn htk.out.box.lt).cell (i:=0) (by rw[HQC.out];rfl)
      clear hTr hvv hP5 hps5 hbn hpm hgo hstop gp hr hno hkr
      gi_wp2_with fail
      refine⟨trivial,CallsIn.mono (F:=Fence.wide.inRound l2) (callsIn_wide.2 ccj) ?_⟩;rintro e w14 ⟨rfl,hb14⟩;clear ccj y0 y1 y2 y3 y4 y5 y6 y7 y8 y9 y10 y11 y12 y13 b0;have h14:=htk.out.turn HN.out (J5 HBN.out hb14);have k14:=A0y HKR.out (J5 HBN.out hb14);have r0:=h14.er.c 0 rfl;have rf:=h14.er.free 0
      by_cases hr0:r=0
      ·subst hr0;have h15:=J1 (h14.sete 0);have k15:=J1 (Y0 k14 HO.out.2.1 (.int .i64 0));have hno2:=J1 (HGO.out rfl);clear h14 k14 hb14
       gi_wp2_with fail
       go_roundw
       case rel=>exact⟨z+1,by omega,by go_num,hno2,h15,k15.out⟩
       case measure=>simp[intOf];omega
      ·have hr1:(r != 0)=true:=by simpa using hr0
       have hfin:(fun(pre:List Tr) (O:Nat→Prop) (W:World)=>(Ck.run cols pre [] 0).1≠0∧∃cj,TkF w N qc (Ck.run cols pre [] 0).1 cj (Ck.run cols pre [] 0).2 O W) (pre++[x]) O1 (w14.setCell ⟨w.heap.size+1+1,0,none⟩ (.int .i64 r)):=by
        have hr:=HSN.out;rw[HWH.out,HST.out hr0,if_pos hr0]at hr;refine⟨?_,(mp:Int)+(cl:Int),?_⟩
        ·show(Ck.run cols (pre++[x]) [] 0).1≠0
         rw[hr];exact hr0
        ·show TkF w N qc (Ck.run cols (pre++[x]) [] 0).1 _ (Ck.run cols (pre++[x]) [] 0).2 _ _
         rw[hr];exact h14.sete r
       have hkk:=Y0 k14 HO.out.2.1 (.int .i64 r);have HFIN:=J1 hfin;have HKK:=J1 hkk;clear hfin hkk h14 k14 hb14
       gi_wp2_with fail
       exact⟨O1,⟨rfl,HFIN.out⟩,⟨HKK.out.mono fun k hk=>hk.1,fun _ _ h=>h⟩⟩
     ·have hend:Ck.conjs cols (Tr.seen ya) (Tr.seen yb) x.cs=0:=by
       rw[←hno.out,C7 (by have:=HCL.out;omega)]
      have hW:=J1 (show Ck.run cols (pre++[x]) [] 0=(0,(Ck.run cols pre [] 0).2) by
       have hr:=HSN.out
       rw[HWH.out,hend,if_neg (by simp)]at hr
       rw[hr];unfold Ck.comes;rw[if_neg HKN.out])
      have HKR:=J1 hkr;clear hend hno hkr
      gi_wp2_with fail
      exact A0X ⟨O1,⟨by rw[hW.out],by
       show TkF w N qc 0 ((Ck.many (pre++[x]):Nat):Int) (Ck.run cols (pre++[x]) [] 0).2 O1 wr
       rw[hW.out,HMANY.out];exact htk.out⟩,⟨HKR.out.mono fun k hk=>hk.1,fun _ _ h=>h⟩⟩
  ·have hz':(al != 0)=true:=by simpa using hz
   have hfin:(fun(pre:List Tr) (O:Nat→Prop) (W:World)=>(Ck.run cols pre [] 0).1≠0∧∃cj,TkF w N qc (Ck.run cols pre [] 0).1 cj (Ck.run cols pre [] 0).2 O W) (pre++[x]) O1 (w8.setCell ⟨w.heap.size+1+1,0,none⟩ (.int .i64 al)):=by
    have hw:Ck.what cols x (Ck.many pre)=al:=by
     rw[Ck.what_bad (by rw[←HNC.out,←HMP.out,←HCL.out,←HAL.out];exact hz),←HNC.out,←HMP.out,←HCL.out,←HAL.out]
    have hr:=HSN.out;rw[hw,if_pos hz]at hr;refine⟨?_,(mp:Int)+(cl:Int),?_⟩
    ·show(Ck.run cols (pre++[x]) [] 0).1≠0
     rw[hr];exact hz
    ·show TkF w N qc (Ck.run cols (pre++[x]) [] 0).1 _ (Ck.run cols (pre++[x]) [] 0).2 _ _
     rw[hr];exact H8.out.sete al
   have hkk:=Y0 K8.out HO.out.2.1 (.int .i64 al);have HFIN:=J1 hfin;have HKK:=J1 hkk;clear hfin hkk
   gi_wp2_with fail
   exact⟨O1,⟨rfl,HFIN.out⟩,⟨HKK.out.mono fun k hk=>hk.1,fun _ _ h=>h⟩⟩
 case done =>
  rintro D O1 W rfl ⟨hrun,h⟩ hOD hK;rw[←hNN]at hOD hK ⊢
  have HRUN:=J1 (show Ck.run cols (Tr.all a) [] 0=(0,(Ck.run cols (Tr.all a) [] 0).2) by rw[←hrun])
  obtain⟨came,hcame⟩:∃came,came=(Ck.run cols (Tr.all a) [] 0).2:=⟨_,rfl⟩;rw[←hcame]at h HRUN;obtain⟨er,her⟩:∃er:Int,er=0:=⟨_,rfl⟩;rw[←her]at h HRUN;clear hrun hcame her;have hdl:N<W.heap.size:=(D9.1 hK).1;obtain⟨Dm,hown,htal⟩:=h.own;have m0:=h.mp.c 0 rfl;have hle:=h.er;have hbel:=h.below
  have hbw:w.heap.size+1<W.heap.size:=by have:=h.size;have:=HN.out;omega
  have hND:w.heap.size≤N:=by have:=HN.out;omega
  have HDL:=J1 hdl;have HTAL:=J1 htal;have HOWN:=J1 hown;have HLE:=J1 hle;have HBEL:=J1 hbel;have HBW:=J1 hbw;have HND:=J1 hND;have HKD:=J1 hK;have HOD:=J1 hOD;clear h hown htal hle hbel hbw hND hNN hI0 hcell hon5 hdl hK hOD hsz hb06
  gi_wp2_with (first
   | (gi_at_range;refine wpListIn_range_own _ rfl _ 110 rfl 3 3 A37 Tryz.underlying110 _ (w.heap.size+1) _ Dm rfl HOWN.out ?_;intro w1 hrg hg1 hs1))
  go_frame
  gi_loopw [12] (fun _ wr=>∃(left:Lit→Bool) (cnt:Nat),wr.ranges Tryz.prog 3 (plainElem (H:=Unit) Tryz.prog 3) (w.heap.size+1) W.heap.size came.length Dm left cnt∧Hid (∀t∈came,left (.int .i64 t)=false→came.count t≤1)∧Hid (Lies wr (w.heap.size+1+1) 34 [er])∧Hid (wr.heap[N]?=some (.deferred (some [])))∧Below w w wr) (fun _ wr=>wr.rangeLeft (w.heap.size+1) W.heap.size)
  case atStart =>
   refine⟨_,_,hrg,J1 fun t ht hno=>?_,J1 ((hg1.block _ (HLE.out.lt) (by simp)).trans HLE.out),J1 ((hg1.block _ HDL.out (by simp)).trans HKD.out),HBEL.out.trans ⟨hg1.os,hg1.tape,hg1.output,hg1.size,fun k hk=>hg1.block k (by have:=HBW.out;omega) (by simp)⟩⟩
   exfalso
   have h1:=atKey_of_not_has hno (.lit (.int .i64 0));rw[HTAL.out t]at h1;have h2:=List.count_pos_iff.2 ht;simp only[DataW.lit.injEq,Lit.int.injEq,true_and]at h1;omega
  case round =>
   obtain⟨left,cnt,hrg,hcn,hle,hdf,hb⟩:=hrel
   gi_wp2_with (first
    | (gi_at_next;refine wpListIn_next_ranges_ii _ rfl _ rfl 3 3 .i64 .i64 A37 Tryz.underlying3 Tryz.underlying3 (w.heap.size+1) W.heap.size _ Dm left cnt rfl hrg ?_ ?_))
   ·intro hc0 hl0
    have hnd:came.Nodup:=List.nodup_iff_count.2 fun t=>by
     by_cases ht:t∈came
     ·exact hcn.out t ht (hl0 _)
     ·rw[List.count_eq_zero.2 ht];omega
    have hres:Ck.tour cols a=er:=by unfold Ck.tour;rw[HRUN.out,if_pos hnd]
    have r0:=hle.out.c 0 rfl;have HRES:=J1 hres;have HB:=J1 (hb.trans (X0 wr N (.deferred none) HND.out));clear hnd hres hc0 hl0 hrg hb
    gi_wp2_with fail
    refine⟨by simp,.inl ⟨_,_,rfl,run_takeDeferred hdf.out,?_⟩⟩
    exact⟨_,results_tmp (t:=2) rfl _ _ _,by rw[HRES.out];rfl,HB.out⟩
   ·intro xk ck w2 cnt2 hwx hwc hlx hat hrg2 hlt hg2 hs2 hen
    have hcx:ck=((came.count xk:Nat):Int):=by
     have e:=(hat (.lit (.int .i64 0))).symm.trans (HTAL.out xk);simp only[DataW.lit.injEq,Lit.int.injEq,true_and]at e;exact e
    have hdr:N<wr.heap.size:=(D9.1 hdf.out).1
    have hdf2:w2.heap[N]?=some (.deferred (some [])):=(hg2.block N hdr (fun e=>by have:=HDL.out;have:=F0 e;omega)).trans hdf.out
    have hle2:Lies w2 (w.heap.size+1+1) 34 [er]:=(hg2.block _ hle.out.lt (fun e=>by have:=HLE.out.lt;have:=F0 e;omega)).trans hle.out
    have hb2:Below w w w2:=hb.trans ⟨hg2.os,hg2.tape,hg2.output,hg2.size,fun k hk=>hg2.block k (by have:=hb.size;omega) (fun e=>by have:=HBW.out;have:=F0 e;omega)⟩
    have HDF2:=J1 hdf2;have HLE2:=J1 hle2;have HB2:=J1 hb2;have HLT:=J1 hlt;clear hs2 hdf2 hle2 hb2 hat hwx hlx hg2 hb hdr hlt
    by_cases h1:1<ck
    ·have hnd:¬came.Nodup:=fun h=>by have:=List.nodup_iff_count.1 h xk;omega
     have hres:Ck.tour cols a=6:=by unfold Ck.tour;rw[HRUN.out,if_neg hnd]
     have HRES:=J1 hres;have HB:=J1 (HB2.out.trans (X0 w2 N (.deferred none) HND.out));clear hnd hres hcx hrg hrg2
     gi_wp2_with fail
     refine⟨by simp,.inl ⟨_,_,rfl,run_takeDeferred HDF2.out,?_⟩⟩
     exact⟨_,results_tmp (t:=2) rfl _ _ _,by rw[HRES.out];rfl,HB.out⟩
    ·have hcn2:Hid (∀t∈came,(left (.int .i64 t)&&!(Lit.int .i64 t).sameKey (.int .i64 xk))=false→came.count t≤1):=J1 fun t ht hno=>by
      rw[Bool.and_eq_false_iff]at hno
      rcases hno with hno | hno
      ·exact hcn.out t ht hno
      ·have e:=WideAt.sameKey_eq (by simpa using hno)
       simp only[Lit.int.injEq,true_and]at e;subst e;omega
     have HRG2:=J1 hrg2;have HRG:=J1 hrg;clear hcx hrg2 hrg
     gi_wp2_with fail
     go_roundw
     case rel=>exact⟨fun z=>left z&&!z.sameKey (.int .i64 xk),cnt2,HRG2.out,hcn2,HLE2,HDF2,HB2.out⟩
     case measure=>rw[HRG2.out.left_eq,HRG.out.left_eq];exact HLT.out
 case stop =>
  rintro D c9 pre O1 W rfl hpx ⟨rfl,hrun,cj9,h⟩ hOD hK;rw[←hNN]at hOD hK ⊢
  have HRUN:=J1 (show Ck.run cols (Tr.all a) [] 0=((Ck.run cols pre [] 0).1,(Ck.run cols pre [] 0).2) by
   obtain⟨r,hr⟩:=hpx;rw[←hr,Ck.run_stop hrun])
  obtain⟨came,hcame⟩:∃came,came=(Ck.run cols pre [] 0).2:=⟨_,rfl⟩;obtain⟨er,her⟩:∃er,er=(Ck.run cols pre [] 0).1:=⟨_,rfl⟩;rw[←hcame]at h HRUN;rw[←her]at h HRUN;clear hrun hcame her hpx;have hdl:N<W.heap.size:=(D9.1 hK).1;obtain⟨Dm,hown,htal⟩:=h.own;have m0:=h.mp.c 0 rfl;have hle:=h.er;have hbel:=h.below
  have hbw:w.heap.size+1<W.heap.size:=by have:=h.size;have:=HN.out;omega
  have hND:w.heap.size≤N:=by have:=HN.out;omega
  have HDL:=J1 hdl;have HTAL:=J1 htal;have HOWN:=J1 hown;have HLE:=J1 hle;have HBEL:=J1 hbel;have HBW:=J1 hbw;have HND:=J1 hND;have HKD:=J1 hK;have HOD:=J1 hOD;clear h hown htal hle hbel hbw hND hNN hI0 hcell hon5 hdl hK hOD hsz hb06
  gi_wp2_with (first
   | (gi_at_range;refine wpListIn_range_own _ rfl _ 110 rfl 3 3 A37 Tryz.underlying110 _ (w.heap.size+1) _ Dm rfl HOWN.out ?_;intro w1 hrg hg1 hs1))
  go_frame
  gi_loopw [12] (fun _ wr=>∃(left:Lit→Bool) (cnt:Nat),wr.ranges Tryz.prog 3 (plainElem (H:=Unit) Tryz.prog 3) (w.heap.size+1) W.heap.size came.length Dm left cnt∧Hid (∀t∈came,left (.int .i64 t)=false→came.count t≤1)∧Hid (Lies wr (w.heap.size+1+1) 34 [er])∧Hid (wr.heap[N]?=some (.deferred (some [])))∧Below w w wr) (fun _ wr=>wr.rangeLeft (w.heap.size+1) W.heap.size)
  case atStart =>
   refine⟨_,_,hrg,J1 fun t ht hno=>?_,J1 ((hg1.block _ (HLE.out.lt) (by simp)).trans HLE.out),J1 ((hg1.block _ HDL.out (by simp)).trans HKD.out),HBEL.out.trans ⟨hg1.os,hg1.tape,hg1.output,hg1.size,fun k hk=>hg1.block k (by have:=HBW.out;omega) (by simp)⟩⟩
   exfalso
   have h1:=atKey_of_not_has hno (.lit (.int .i64 0));rw[HTAL.out t]at h1;have h2:=List.count_pos_iff.2 ht;simp only[DataW.lit.injEq,Lit.int.injEq,true_and]at h1;omega
  case round =>
   obtain⟨left,cnt,hrg,hcn,hle,hdf,hb⟩:=hrel
   gi_wp2_with (first
    | (gi_at_next;refine wpListIn_next_ranges_ii _ rfl _ rfl 3 3 .i64 .i64 A37 Tryz.underlying3 Tryz.underlying3 (w.heap.size+1) W.heap.size _ Dm left cnt rfl hrg ?_ ?_))
   ·intro hc0 hl0
    have hnd:came.Nodup:=List.nodup_iff_count.2 fun t=>by
     by_cases ht:t∈came
     ·exact hcn.out t ht (hl0 _)
     ·rw[List.count_eq_zero.2 ht];omega
    have hres:Ck.tour cols a=er:=by unfold Ck.tour;rw[HRUN.out,if_pos hnd]
    have r0:=hle.out.c 0 rfl;have HRES:=J1 hres;have HB:=J1 (hb.trans (X0 wr N (.deferred none) HND.out));clear hnd hres hc0 hl0 hrg hb
    gi_wp2_with fail
    refine⟨by simp,.inl ⟨_,_,rfl,run_takeDeferred hdf.out,?_⟩⟩
    exact⟨_,results_tmp (t:=2) rfl _ _ _,by rw[HRES.out];rfl,HB.out⟩
   ·intro xk ck w2 cnt2 hwx hwc hlx hat hrg2 hlt hg2 hs2 hen
    have hcx:ck=((came.count xk:Nat):Int):=by
     have e:=(hat (.lit (.int .i64 0))).symm.trans (HTAL.out xk);simp only[DataW.lit.injEq,Lit.int.injEq,true_and]at e;exact e
    have hdr:N<wr.heap.size:=(D9.1 hdf.out).1
    have hdf2:w2.heap[N]?=some (.deferred (some [])):=(hg2.block N hdr (fun e=>by have:=HDL.out;have:=F0 e;omega)).trans hdf.out
    have hle2:Lies w2 (w.heap.size+1+1) 34 [er]:=(hg2.block _ hle.out.lt (fun e=>by have:=HLE.out.lt;have:=F0 e;omega)).trans hle.out
    have hb2:Below w w w2:=hb.trans ⟨hg2.os,hg2.tape,hg2.output,hg2.size,fun k hk=>hg2.block k (by have:=hb.size;omega) (fun e=>by have:=HBW.out;have:=F0 e;omega)⟩
    have HDF2:=J1 hdf2;have HLE2:=J1 hle2;have HB2:=J1 hb2;have HLT:=J1 hlt;clear hs2 hdf2 hle2 hb2 hat hwx hlx hg2 hb hdr hlt
    by_cases h1:1<ck
    ·have hnd:¬came.Nodup:=fun h=>by have:=List.nodup_iff_count.1 h xk;omega
     have hres:Ck.tour cols a=6:=by unfold Ck.tour;rw[HRUN.out,if_neg hnd]
     have HRES:=J1 hres;have HB:=J1 (HB2.out.trans (X0 w2 N (.deferred none) HND.out));clear hnd hres hcx hrg hrg2
     gi_wp2_with fail
     refine⟨by simp,.inl ⟨_,_,rfl,run_takeDeferred HDF2.out,?_⟩⟩
     exact⟨_,results_tmp (t:=2) rfl _ _ _,by rw[HRES.out];rfl,HB.out⟩
    ·have hcn2:Hid (∀t∈came,(left (.int .i64 t)&&!(Lit.int .i64 t).sameKey (.int .i64 xk))=false→came.count t≤1):=J1 fun t ht hno=>by
      rw[Bool.and_eq_false_iff]at hno
      rcases hno with hno | hno
      ·exact hcn.out t ht hno
      ·have e:=WideAt.sameKey_eq (by simpa using hno)
       simp only[Lit.int.injEq,true_and]at e;subst e;omega
     have HRG2:=J1 hrg2;have HRG:=J1 hrg;clear hcx hrg2 hrg
     gi_wp2_with fail
     go_roundw
     case rel=>exact⟨fun z=>left z&&!z.sameKey (.int .i64 xk),cnt2,HRG2.out,hcn2,HLE2,HDF2,HB2.out⟩
     case measure=>rw[HRG2.out.left_eq,HRG.out.left_eq];exact HLT.out
open Go.RowKit Go.Sort
theorem Ck.query_long {cols:List Int} {a:Tr} (h:64<cols.length):Ck.query cols a=2:=by unfold Ck.query;rw[if_pos h]
theorem Ck.query_cols {cols:List Int} {a:Tr} {x:Int} (h:¬64<cols.length) (hx:x∈cols) (hb:x<1∨4<x):Ck.query cols a=12:=by
 unfold Ck.query;rw[if_neg h,if_pos];refine F4.2 ⟨x,hx,?_⟩
 rcases hb with hb | hb <;> simp[hb]
theorem Ck.query_tour {cols:List Int} {a:Tr} (h:¬64<cols.length) (hx:∀x∈cols,1≤x∧x≤4):Ck.query cols a=Ck.tour cols a:=by
 unfold Ck.query;rw[if_neg h,if_neg];intro hh;obtain⟨x,h1,h2⟩:=F4.1 hh;have:=hx x h1
 simp at h2
 omega
theorem A1C (a:Tr) (cols:List Int) (cv:Value) (u v:Value) (w:World) (hc:Sl w cv (cols.map (Value.int .i64))) (hu:∃d,TsAt d w u a.ks) (hv:PsSome w v a.cs) (hsz:Tr.size a≤1000) :
  Calls Tryz.prog 9 #[.agg #[cv,a.k,a.t,u,v,a.h]] w
   fun e w'=>e=.returned (.int .i64 (Ck.query cols a))∧Below w w w':=by
 obtain⟨A,c,rfl,hl⟩:=hu.elim fun d h=>h.form;obtain⟨A',c',rfl,hl'⟩:=hv.elim fun d h=>h.form;obtain⟨C,cc,hcv,_⟩:=id hc;subst hcv;rw[E0]at hc ⊢;obtain⟨n,hn⟩:∃n,n=cols.length:=⟨_,rfl⟩;rw[←hn]at hc ⊢;obtain⟨W0,hW0⟩:∃W0,W0=w.alloc (Obj.cells #[.slice C n cc,a.k,a.t,.slice A a.ks.length c,.slice A' a.cs.length c',a.h] 28):=⟨_,rfl⟩;obtain⟨l0,hb0⟩:=L5 (cs:=[.slice C n cc,a.k,a.t,.slice A a.ks.length c,.slice A' a.cs.length c',a.h]) hW0;have x0:=l0.c 0 rfl;have x1:=l0.c 1 rfl;have x2:=l0.c 2 rfl;have x3:=l0.c 3 rfl;have x4:=l0.c 4 rfl;have x5:=l0.c 5 rfl;have HC:=J1 (hc.below hb0 (C3 _));have ct:=fun hn64=>A47 a cols C n cc _ _ W0 (hc.below hb0 (C3 _)) hn64 (hu.elim fun d h=>⟨d,h.below hb0 (C3 _)⟩) (hv.below hb0 (C3 _)) hsz;have CT:=J1 ct;have HW:=J1 hW0;have HB:=J1 hb0;have HN:=J1 hn;obtain⟨R,hR⟩:∃R,R=Ck.query cols a:=⟨_,rfl⟩;rw[←hR];have HR:=J1 hR;clear hc hu hv hsz l0 hb0 hW0 hn ct hR
 by_cases hbig:64<n
 ·have hr:R=2:=by rw[HR.out];exact Ck.query_long (by have:=HN.out;omega)
  subst hr;go_enter Tryz.func9,Tryz.ntmps9
  go_upto_region 1 with(fail)
  rw[←HW.out];go_wp2_with fail;go_ret;exact⟨rfl,HB.out⟩
 ·go_enter Tryz.func9,Tryz.ntmps9
  go_upto_region 1 with(fail)
  rw[←HW.out];go_wp2_with fail
  go_loopw [12] (fun i wr=>∃q:Nat,q≤n∧i=.int .i64 q∧Hid (∀x∈cols.take q,1≤x∧x≤4)∧wr=W0) (fun i _=>n-(intOf i).toNat)
  case atStart=>exact⟨0,E3 _,rfl,J1 (by simp),rfl⟩
  case round =>
   obtain⟨q,hq,rfl,hok,rfl⟩:=hrel
   by_cases hlt:q<n
   ·obtain⟨x,gx⟩:∃x,cols[q]?=some x:=⟨cols[q]'(by have:=HN.out;omega),A8 _⟩
    obtain⟨b1,o1,p1,rfl,_,hcell⟩:=HC.out.ints_at gx;have hm:=C8 gx
    have ht:cols.take (q+1)=cols.take q++[x]:=by rw[D7,gx];rfl
    have HT:=J1 ht;have HM:=J1 hm;clear gx hm ht
    by_cases h1:x<1
    ·have hr:R=12:=by rw[HR.out];exact Ck.query_cols (by have:=HN.out;omega) HM.out (.inl h1)
     subst hr;go_wp2_with fail;go_ret;exact⟨rfl,HB.out⟩
    ·by_cases h4:4<x
     ·have hr:R=12:=by rw[HR.out];exact Ck.query_cols (by have:=HN.out;omega) HM.out (.inr h4)
      subst hr;go_wp2_with fail;go_ret;exact⟨rfl,HB.out⟩
     ·have hok2:=J1 (show ∀y∈cols.take (q+1),1≤y∧y≤4 by
       rw[HT.out];intro y hy
       rcases G3.1 hy with hy | hy
       ·exact hok.out y hy
       ·rw[G4.1 hy];omega)
      go_wp2_with fail
      go_roundw
      case rel=>exact⟨q+1,by omega,by go_num,hok2,trivial⟩
      case measure=>simp[intOf];omega
   ·have hr:R=Ck.tour cols a:=by
     rw[HR.out]
     refine Ck.query_tour (by have:=HN.out;omega) fun x hx=>hok.out x ?_
     rw[C7 (by have:=HN.out;omega)];exact hx
    have ct:=CT.out (by have:=HN.out;omega)
    rw[←hr]at ct;clear hr hok;go_wp2_with fail;refine ct.mono ?_;rintro e w1 ⟨rfl,hb1⟩;clear ct x0 x1 x2 x3 x4 x5;go_wp2_with fail;go_ret;exact⟨rfl,J5 HB.out hb1⟩
theorem Ck.oneR_fine {cols came:List Int} {t:Tr} {c:Nat} (h:Ck.oneR cols came t c=0):Ck.what cols t c=0:=by
 unfold Ck.oneR at h
 split at h
 ·rename_i hh;exact absurd h hh
 ·rename_i hh;exact Decidable.not_not.1 hh
theorem A2z {α:Type} {l:List α} {q:Nat} {x:α} (h:l[q]?=some x):l.take q++[x] <+: l:=by
 have e:l.take (q+1)=l.take q++[x]:=by rw[D7,h];rfl
 rw[←e];exact List.take_prefix _ _
theorem A2n {α:Type} {l:List α} {q:Nat} {x:α} (h:l[q]?=some x):l.drop q=x::l.drop (q+1):=by
 obtain⟨hl,rfl⟩:=D8.1 h;exact List.drop_eq_getElem_cons hl
theorem A25 (a:Tr) (cols:List Int) (cv:Value) (u v:Value) (w:World) (hc:Sl w cv (cols.map (Value.int .i64))) (hu:∃d,TsAt d w u a.ks) (hv:PsSome w v a.cs) (hsz:Tr.size a≤1000) :
  Calls Tryz.prog 38 #[.agg #[cv,a.k,a.t,u,v,a.h]] w
   fun e w'=>e=.returned (.int .i64 (Ck.query cols a))∧Below w w w':=by
 obtain⟨i0,hi,hz0,hz1,hz2⟩:=info_parts Tryz.infoInt;obtain⟨A,c,rfl,hl⟩:=hu.elim fun d h=>h.form;obtain⟨A',c',rfl,hl'⟩:=hv.elim fun d h=>h.form;obtain⟨C,cc,hcv,_⟩:=id hc;subst hcv;rw[E0]at hc ⊢;obtain⟨nc,hnc⟩:∃n,n=cols.length:=⟨_,rfl⟩;rw[←hnc]at hc ⊢;obtain⟨W0,hW0⟩:∃W0,W0=w.alloc (Obj.cells #[.slice C nc cc,a.k,a.t,.slice A a.ks.length c,.slice A' a.cs.length c',a.h] 28):=⟨_,rfl⟩;obtain⟨l0,hb0⟩:=L5 (cs:=[.slice C nc cc,a.k,a.t,.slice A a.ks.length c,.slice A' a.cs.length c',a.h]) hW0;have x0:=l0.c 0 rfl;have x1:=l0.c 1 rfl;have x2:=l0.c 2 rfl;have x3:=l0.c 3 rfl;have x4:=l0.c 4 rfl;have x5:=l0.c 5 rfl;have HC:=J1 (hc.below hb0 (C3 _));have ca:=hu.elim fun d h=>A18 W0 d a _ _ W0 (Below.refl _ _) (h.below hb0 (C3 _)) (hv.below hb0 (C3 _)) hsz;have HW:=J1 hW0;have HB:=J1 hb0;have HL0:=J1 l0;have HNC:=J1 hnc;have hal:=Tr.all_length_le a;obtain⟨R,hR⟩:∃R,R=Ck.query cols a:=⟨_,rfl⟩;rw[←hR];have HR:=J1 hR;have HSZ:=J1 hsz;clear hc hu hv l0 hb0 hW0 hnc hR
 by_cases hbig:64<nc
 ·have hr:R=2:=by rw[HR.out];exact Ck.query_long (by have:=HNC.out;omega)
  subst hr;go_enter Tryz.func38,Tryz.ntmps38
  go_upto_region 1 with(fail)
  rw[←HW.out];go_wp2_with fail;go_ret;exact⟨rfl,HB.out⟩
 ·go_enter Tryz.func38,Tryz.ntmps38
  go_upto_region 1 with(fail)
  rw[←HW.out];go_wp2_with fail
  go_loopw [3] (fun i wr=>∃q:Nat,q≤nc∧i=.int .i64 q∧Hid (∀x∈cols.take q,1≤x∧x≤4)∧W0=wr) (fun i _=>nc-(intOf i).toNat)
  case atStart=>exact⟨0,E3 _,rfl,J1 (by simp),rfl⟩
  case round =>
   obtain⟨q,hq,rfl,hok,rfl⟩:=hrel
   by_cases hlt:q<nc
   ·obtain⟨x,gx⟩:∃x,cols[q]?=some x:=⟨cols[q]'(by have:=HNC.out;omega),A8 _⟩
    obtain⟨b1,o1,p1,rfl,_,hcell⟩:=HC.out.ints_at gx;have hm:=C8 gx
    have ht:cols.take (q+1)=cols.take q++[x]:=by rw[D7,gx];rfl
    have HT:=J1 ht;have HM:=J1 hm;clear gx hm ht
    by_cases h1:x<1
    ·have hr:R=12:=by rw[HR.out];exact Ck.query_cols (by have:=HNC.out;omega) HM.out (.inl h1)
     subst hr;go_wp2_with fail;go_ret;exact⟨rfl,HB.out⟩
    ·by_cases h4:4<x
     ·have hr:R=12:=by rw[HR.out];exact Ck.query_cols (by have:=HNC.out;omega) HM.out (.inr h4)
      subst hr;go_wp2_with fail;go_ret;exact⟨rfl,HB.out⟩
     ·have hok2:=J1 (show ∀y∈cols.take (q+1),1≤y∧y≤4 by
       rw[HT.out];intro y hy
       rcases G3.1 hy with hy | hy
       ·exact hok.out y hy
       ·rw[G4.1 hy];omega)
      go_wp2_with fail
      go_roundw
      case rel=>exact⟨q+1,by omega,by go_num,hok2,trivial⟩
      case measure=>simp[intOf];omega
   ·have hr:R=Ck.doc cols (Tr.all a) [] 0:=by
     rw[HR.out,Ck.doc_tour]
     refine Ck.query_tour (by have:=HNC.out;omega) fun x hx=>hok.out x ?_
     rw[C7 (by have:=HNC.out;omega)];exact hx
    have HR2:=J1 hr;clear hr hok;go_wp2_with fail;refine ca.mono ?_;rintro e w2 ⟨v2,L,rfl,hm,hang,hown2,hb2⟩;obtain⟨n,hn⟩:∃n,n=L.length:=⟨_,rfl⟩
    have hln:n=(Tr.all a).length:=by rw[hn,←hm,E0]
    have hnl:n≤1000:=by have:=HSZ.out;omega
    obtain⟨B,c2,rfl,_⟩:=A2e hown2;rw[←hn]at hown2 ⊢;have HN:=J1 hn;have HM:=J1 hm;have HLN:=J1 hln;have HANG:=J1 hang;have hbe:Below w2 w2 (w2.alloc (Obj.cells #[] 3)):=J6 _ _;have how:=A1G w2 3 1 w2.heap.size (C3 _) w2.heap.size rfl;have HO:=J1 (hown2.alloc (Obj.cells #[] 3));have HOL:=J1 how;have HB3:=J1 (J5 hb2 hbe);have HS0:=J1 hb2.size
    have HS2:=J1 (show w2.heap.size<(w2.alloc (Obj.cells #[] 3)).heap.size by simp)
    clear ca x0 x1 x2 x3 x4 x5 hn hm hang hown2 hb2 hbe how hln hal;go_wp2_with fail
    go_loopw [5,6,7] (fun s j i wr=>∃(q cj:Nat) (came:List Int),q≤n∧i=.int .i64 q∧j=.int .i64 cj∧cj≤64∧came.length≤q∧Hid (wr.ownsRow w2.heap.size 3 1 s came.length (came.map (Value.int .i64)))∧Hid (wr.ownsRow W0.heap.size 26 5 (.slice B n c2) n (trCells L))∧Hid (R=Ck.doc cols ((Tr.all a).drop q) came cj)∧Hid (∀y∈(Tr.all a).take q,Ck.Fine cols.length y)∧w2.heap.size<wr.heap.size∧Below W0 W0 wr) (fun _ _ i _=>n-(intOf i).toNat)
    case atStart=>exact⟨0,0,[],E3 _,rfl,rfl,by omega,C3 _,HOL,HO,HR2,J1 (by simp),HS2.out,HB3.out⟩
    case round =>
     obtain⟨q,cj,came,hq,rfl,rfl,hcj,hcl,hown,hrow,hdoc,hfn,hwr,hb⟩:=hrel
     by_cases hlt:q<n
     ·obtain⟨x,gx⟩:∃x,L[q]?=some x:=⟨L[q]'(by have:=HN.out;omega),A8 _⟩
      have gb:(Tr.all a)[q]?=some x.1:=by rw[←HM.out,F5,gx];rfl
      have hrow':=hrow.out;rw[HN.out]at hrow';obtain⟨A1,c1,hv1,hx⟩:=A2e hrow';cases hv1;obtain⟨g,rfl,hg1,hg2,hcell⟩:=hx q x gx;rw[S5]at hcell;have hxm:=C8 gx;have hh:=HANG.out x hxm;obtain⟨t,ux,vx⟩:=x;have hh1:∃d,TsAt d W0 ux t.ks:=hh.1;have hh2:PsSome W0 vx t.cs:=hh.2;change TrCell wr ⟨g,q*5,none⟩ t ux vx at hcell;change (Tr.all a)[q]?=some t at gb;clear hh hxm;obtain⟨B5,e5,rfl,_⟩:=hh1.elim fun d h=>h.form;obtain⟨B6,e6,rfl,_⟩:=hh2.elim fun d h=>h.form;have hgw:g<wr.heap.size:=hg2;have hpx:=A2z gb;have hmem:=C8 gb;have hts:=D5 (Tr.all_size hmem) HSZ.out;have hsl:=Sl.own hown.out;obtain⟨M,mc,hsv,_⟩:=id hsl;subst hsv;rw[E0]at hsl;have hownx:=hown.out;rw[E0]at hownx;replace hown:=J1 hownx;clear hownx;have hwl:∀W,Below wr wr W→Below W0 W0 W:=fun W h=>J5 hb h;obtain⟨z,hz⟩:∃z,z=Ck.oneR cols came t cj:=⟨_,rfl⟩
      have CO:=J1 (fun W (h:Below wr wr W)=>(A73 t (.slice B5 t.ks.length e5) (.slice B6 t.cs.length e6) (.slice C nc cc) (.slice M came.length mc) cols came cj W (hh1.elim fun d h1=>⟨d,h1.below (hwl W h) (C3 _)⟩) (hh2.below (hwl W h) (C3 _)) (HC.out.below (hwl W h) (C3 _)) (hsl.below h (C3 _)) (by omega) hcj
       (fun i=>Ck.ksn_fine hpx hfn.out i) hts).mono fun e w' ⟨he,hbb⟩=>(⟨by rw[he,←hz],J5 h hbb⟩:e=Ending.returned (.int .i64 z)∧Below wr wr w'))
      have KK:=J1 (fun W (h:Below wr wr W)=>(show(W.cell? ⟨w.heap.size,0,none⟩=some (.slice C nc cc)∧W.cell? ⟨g,q*5,none⟩=some (.int .i64 t.k)∧W.cell? ⟨g,q*5+1,none⟩=some (.int .i64 t.t)∧W.cell? ⟨g,q*5+2,none⟩=some (.slice B5 t.ks.length e5)∧W.cell? ⟨g,q*5+3,none⟩=some (.slice B6 t.cs.length e6)∧W.cell? ⟨g,q*5+4,none⟩=some (.bool t.h))∧Below wr wr W from
       have ct:=hcell.below h hgw
       ⟨⟨(HL0.out.below (hwl W h) HL0.out.lt).c 0 rfl,ct.c0,ct.c1,ct.c2,ct.c3,ct.c4⟩,h⟩))
      have HZ:=J1 hz;have HGB:=J1 gb;have HPX:=J1 hpx;have hS:=Below.refl wr wr
      have hcs:t.cs.length≤1000:=by
       have h1:=Tr.size_at t;have h2:=Pr.sizes_length t.cs;omega
      clear hh1 hh2 hcell hpx hmem hts hsl hwl hz gb gx hrow' hx
      go_upto_region 14 with(fail)
      go_region_held3 (fun W=>(W.cell? ⟨w.heap.size,0,none⟩=some (.slice C nc cc)∧W.cell? ⟨g,q*5,none⟩=some (.int .i64 t.k)∧W.cell? ⟨g,q*5+1,none⟩=some (.int .i64 t.t)∧W.cell? ⟨g,q*5+2,none⟩=some (.slice B5 t.ks.length e5)∧W.cell? ⟨g,q*5+3,none⟩=some (.slice B6 t.cs.length e6)∧W.cell? ⟨g,q*5+4,none⟩=some (.bool t.h))∧Below wr wr W) (first | (exact KK.out _ (by repeat first | assumption | refine Below.drew ?_)))
       (first
        | (go_at_call 67;(with_reducible refine(CO.out _ (by repeat first | assumption | refine Below.drew ?_)).mono ?_);rintro e w5 ⟨rfl,hS5⟩)
        | (fail "no arm"))
      have hS5:Below wr wr w5:=hS5;have hown5:=A0m hown.out hS5;have hrow5:=A0m hrow.out hS5;have hb5:=J5 hb hS5
      obtain⟨q0,q1,q2,q3,q4⟩:=(show TrCell w5 ⟨g,q*5,none⟩ t (.slice B5 t.ks.length e5) (.slice B6 t.cs.length e6) from
       have kk:=(KK.out w5 hS5).1.2
       ⟨kk.1,kk.2.1,kk.2.2.1,kk.2.2.2.1,kk.2.2.2.2⟩)
      clear KK CO
      by_cases hzz:z=0
      ·have hw0:Ck.what cols t cj=0:=Ck.oneR_fine (by rw[←HZ.out];exact hzz)
       have hle64:=Ck.what_le hw0
       have hdoc2:R=Ck.doc cols ((Tr.all a).drop (q+1)) (Ck.comes t came) (cj+t.cs.length):=by
        rw[hdoc.out,A2n HGB.out,Ck.doc_at,←HZ.out,if_neg (not_not_intro hzz)]
       have hfn2:∀y∈(Tr.all a).take (q+1),Ck.Fine cols.length y:=fun y hy=>by
        rw[D7,HGB.out]at hy
        rcases G3.1 hy with hy | hy
        ·exact hfn.out y hy
        ·obtain rfl:y=t:=by simpa using hy
         exact Ck.alone_fine (Ck.what_alone hw0)
       have HFN2:=J1 hfn2;have HROW5:=J1 hrow5;have HOWN5:=J1 hown5;subst hzz
       have hw5:w2.heap.size<w5.heap.size:=by have:=hS5.size;omega
       clear hw0 hfn2 hrow5 hown5 hown hrow hdoc hfn HZ
       by_cases hk:t.k=0
       ·unfold Ck.comes at hdoc2;rw[if_pos hk]at hdoc2;have HDOC2:=J1 hdoc2;clear hdoc2
        go_wp2_with (first
         | (at_builtin;refine M5 _ rfl _ _ 22 rfl w2.heap.size 3 i0 (.int .i64 0) 1 8 Tryz.underlying22 hi hz0 hz1 hz2 rfl (by decide) _ _ _ rfl (HOWN5.out.alloc _) _ 1 [t.t] rfl (CameN.new w5 3 1 1 [t.t] _ rfl rfl) ?l0 ?l1 ?l2 ?l3 ?_))
        case l0=>simp[Value.oneCell']
        case l1=>unfold maxLen;omega
        case l2=>omega
        case l3=>first | omega | (simp;omega)
        intro v1 w6 hown6 hgrow;have hlow:∀k,(Value.slice M came.length mc).ownBlock=some k→W0.heap.size≤k:=fun k hk=>D5 HS0.out (HOWN5.out.lt k hk).1
        have hb6:Below W0 W0 w6:=(hb5.alloc hb5.size _).grown hgrow (by have:=hb5.size;simp;omega) hlow
        have hrow6:=J1 ((HROW5.out.alloc (Obj.cells #[t.t] 3)).kept hgrow (A6M (HROW5.out.alloc (Obj.cells #[t.t] 3)) (HOWN5.out.alloc (Obj.cells #[t.t] 3)) (by decide)))
        have hown7:w6.ownsRow w2.heap.size 3 1 v1 (came++[t.t]).length ((came++[t.t]).map (Value.int .i64)):=by simpa using hown6
        have HOWN7:=J1 hown7
        have hw6:w2.heap.size<w6.heap.size:=by have h1:=hgrow.size;rw[J2]at h1;omega
        have hlen2:(came++[t.t]).length≤q+1:=by simp;omega
        clear hown6 hgrow hown7 hlow q0 q1 q2 q3 q4 hb5;go_wp2_with fail
        go_roundw
        case rel=>exact⟨q+1,cj+t.cs.length,came++[t.t],by omega,by go_num,by push_cast;rfl,hle64,hlen2,HOWN7,hrow6,HDOC2,HFN2,hw6,hb6⟩
        case measure=>simp[intOf];omega
       ·have hk2:(t.k == 0)=false:=by simpa using hk
        unfold Ck.comes at hdoc2;rw[if_neg hk]at hdoc2;have HDOC2:=J1 hdoc2;clear hk hdoc2;go_wp2_with fail
        go_roundw
        case rel=>exact⟨q+1,cj+t.cs.length,came,by omega,by go_num,by push_cast;rfl,hle64,by omega,HOWN5,HROW5,HDOC2,HFN2,hw5,hb5⟩
        case measure=>simp[intOf];omega
      ·have hz1:(z != 0)=true:=by simpa using hzz
       have hrz:R=z:=by
        rw[hdoc.out,A2n HGB.out,Ck.doc_at,←HZ.out,if_pos hzz]
       go_wp2_with fail;go_ret
       exact⟨by first | rfl | (rw[hrz];rfl),J5 HB.out hb5⟩
     ·have hr0:R=0:=by
       rw[hdoc.out,List.drop_eq_nil_of_le (by have:=HLN.out;omega),Ck.doc]
      clear hdoc;go_wp2_with fail;go_ret
      exact⟨by first | rfl | (rw[hr0];rfl),J5 HB.out hb⟩
def Dts (w:World) (v:Value) (d:List (List (List Vl))):Prop :=
 ∃A c,v=.slice A d.length c∧d.length≤c∧∀j rs,d[j]?=some rs→∃b o p B e,A=some ⟨b,o,p⟩∧b<w.heap.size∧w.cell? ((⟨b,o,p⟩:Addr).add j)=some (.slice B rs.length e)∧Rws w (.slice B rs.length e) rs
theorem Dts.below {w w':World} {B:Nat} {v:Value} {d:List (List (List Vl))} (h:Dts w v d) (hb:Below B w w') (hB:w.heap.size≤B):Dts w' v d:=by
 obtain⟨A,c,hv,hc,hx⟩:=h;refine⟨A,c,hv,hc,fun j rs hj=>?_⟩;obtain⟨b,o,p,B',e,hA,hlt,h0,h1⟩:=hx j rs hj
 exact⟨b,o,p,B',e,hA,C9 hlt hb.size,(hb.cell (by rw[L7];show b<B;omega)).trans h0,h1.below hb hB⟩
theorem Dts.at_ {w:World} {A:Option Addr} {n c j:Nat} {d:List (List (List Vl))} {rs:List (List Vl)} (h:Dts w (.slice A n c) d) (hj:d[j]?=some rs):∃b o p B e,A=some ⟨b,o,p⟩∧b<w.heap.size∧w.cell? ((⟨b,o,p⟩:Addr).add j)=some (.slice B rs.length e)∧Rws w (.slice B rs.length e) rs:=by
 obtain⟨A',c',hv,_,hx⟩:=h;cases hv;exact hx j rs hj
theorem Ck.query_zero {cols:List Int} {a:Tr} (h:Ck.query cols a=0):cols.length≤64∧∀x∈cols,1≤x∧x≤4:=by
 unfold Ck.query at h
 split at h
 ·simp at h
 ·rename_i h1
  split at h
  ·simp at h
  ·rename_i h2
   refine⟨by omega,fun x hx=>?_⟩
   have h3:¬((decide (x<1)||decide (4<x))=true):=fun hh=>h2 (F4.2 ⟨x,hx,hh⟩)
   simp at h3
   omega
theorem A4v {d:List (List (List Vl))} {cols:List Int} {q:Nat} {rs:List (List Vl)} {m:Int} (h1:d[q]?=some rs) (h2:cols[q]?=some m):(d.zip cols)[q]?=some (rs,m):=by
 rw[List.getElem?_zip_eq_some];exact⟨h1,h2⟩
theorem A5S (a:Tr) (cols:List Int) (cv:Value) (u v dv:Value) (d:List (List (List Vl))) (w:World) (hc:Sl w cv (cols.map (Value.int .i64))) (hu:∃d,TsAt d w u a.ks) (hv:PsSome w v a.cs) (hd:Dts w dv d) (hsz:Tr.size a≤1000) :
  Calls Tryz.prog 25 #[.agg #[cv,a.k,a.t,u,v,a.h],dv] w
   fun e w'=>e=.returned (.int .i64 (Ck.data cols a d))∧Below w w w':=by
 obtain⟨A,c,rfl,hl⟩:=hu.elim fun d h=>h.form;obtain⟨A',c',rfl,hl'⟩:=hv.elim fun d h=>h.form;obtain⟨C,cc,hcv,_⟩:=id hc;subst hcv;obtain⟨D,dc,hdv,_,_⟩:=id hd;subst hdv;rw[E0]at hc ⊢;obtain⟨n,hn⟩:∃n,n=cols.length:=⟨_,rfl⟩;rw[←hn]at hc ⊢;obtain⟨m,hm⟩:∃m,m=d.length:=⟨_,rfl⟩;rw[←hm]at hd ⊢;obtain⟨W0,hW0⟩:∃W0,W0=w.alloc (Obj.cells #[.slice C n cc,a.k,a.t,.slice A a.ks.length c,.slice A' a.cs.length c',a.h] 28):=⟨_,rfl⟩;obtain⟨l0,hb0⟩:=L5 (cs:=[.slice C n cc,a.k,a.t,.slice A a.ks.length c,.slice A' a.cs.length c',a.h]) hW0;have x0:=l0.c 0 rfl;have x1:=l0.c 1 rfl;have x2:=l0.c 2 rfl;have x3:=l0.c 3 rfl;have x4:=l0.c 4 rfl;have x5:=l0.c 5 rfl;have ct:=A1C a cols _ _ _ W0 (hc.below hb0 (C3 _)) (hu.elim fun d h=>⟨d,h.below hb0 (C3 _)⟩) (hv.below hb0 (C3 _)) hsz;have HC:=J1 (hc.below hb0 (C3 _));have HD:=J1 (hd.below hb0 (C3 _));have HL0:=J1 l0;have HW:=J1 hW0;have HB:=J1 hb0;have HN:=J1 hn;have HM:=J1 hm;obtain⟨R,hR⟩:∃R,R=Ck.data cols a d:=⟨_,rfl⟩;rw[←hR];unfold Ck.data at hR;obtain⟨z,hz⟩:∃z,z=Ck.query cols a:=⟨_,rfl⟩;rw[←hz]at ct hR;have HZ:=J1 hz;clear hc hd hu hv hsz l0 hb0 hW0 hn hm hz
 by_cases hz0:z=0
 ·obtain⟨h64,hcol⟩:=Ck.query_zero (HZ.out.symm.trans hz0);subst hz0
  rw[if_neg (by simp)]at hR
  have HCOL:=J1 hcol
  have hn64:n≤64:=by have:=HN.out;omega
  clear hcol h64
  by_cases hmn:m=n
  ·rw[if_neg (by have:=HN.out;have:=HM.out;omega)]at hR
   have HR:=J1 hR;subst hmn;clear hR;go_enter Tryz.func25,Tryz.ntmps25
   go_upto_region 1 with(fail)
   rw[←HW.out];go_wp2_with fail;refine ct.mono ?_;rintro e w1 ⟨rfl,hb1⟩;clear ct x0 x1 x2 x3 x4 x5;have x0:=(HL0.out.below hb1 HL0.out.lt).c 0 rfl;go_wp2_with fail;clear x0
   go_loopw [21] (fun i wr=>∃q:Nat,q≤m∧i=.int .i64 q∧Hid (((d.zip cols).take q).all (fun x=>Ck.fits x.1 x.2)=true)∧Below W0 W0 wr) (fun i _=>m-(intOf i).toNat)
   case atStart=>exact⟨0,E3 _,rfl,J1 (by simp),hb1⟩
   case round =>
    obtain⟨q,hq,rfl,hok,hb⟩:=hrel
    by_cases hlt:q<m
    ·obtain⟨rs,gr⟩:∃x,d[q]?=some x:=⟨d[q]'(by have:=HM.out;omega),A8 _⟩
     obtain⟨x,gx⟩:∃x,cols[q]?=some x:=⟨cols[q]'(by have:=HN.out;omega),A8 _⟩
     have hxb:=HCOL.out x (C8 gx)
     obtain⟨k,rfl⟩:∃k:Nat,x=k:=⟨x.toNat,by omega⟩
     obtain⟨b1,o1,p1,rfl,_,hcell⟩:=(HC.out.below hb (C3 _)).ints_at gx;obtain⟨b2,o2,p2,B2,e2,hD,_,hcell2,hrs⟩:=(HD.out.below hb (C3 _)).at_ gr;subst hD
     have cf:=A3E _ rs k wr hrs (by omega)
     have x0:=(HL0.out.below hb HL0.out.lt).c 0 rfl;have gz:=A4v gr gx;have HGZ:=J1 gz;obtain⟨f,hf⟩:∃f,f=Ck.fits rs (k:Int):=⟨_,rfl⟩;rw[←hf]at cf;have HF:=J1 hf;clear gr gx gz hf hrs hxb
     cases f with
     | true =>
      have hok2:=J1 (show((d.zip cols).take (q+1)).all (fun x=>Ck.fits x.1 x.2)=true by
       rw[D7,HGZ.out,List.all_append,hok.out]
       simp[←HF.out])
      go_wp2_with fail;refine cf.mono ?_;rintro e w2 ⟨rfl,hb2⟩;have hb3:=J5 hb hb2;clear cf x0 hcell hcell2;go_wp2_with fail
      go_roundw
      case rel=>exact⟨q+1,by omega,by go_num,hok2,hb3⟩
      case measure=>simp[intOf];omega
     | false =>
      have hr:R=13:=by
       rw[HR.out,if_neg];unfold Ck.fitAll;intro hh;have:=F6.1 hh _ (C8 HGZ.out);rw[←HF.out]at this
       simp at this
      go_wp2_with fail;refine cf.mono ?_;rintro e w2 ⟨rfl,hb2⟩;have hb3:=J5 hb hb2;clear cf x0 hcell hcell2;go_wp2_with fail;go_ret
      exact⟨by first | rfl | (rw[hr];rfl),J5 HB.out hb3⟩
    ·have hr:R=0:=by
      rw[HR.out,if_pos];unfold Ck.fitAll;rw[←hok.out,C7];rw[List.length_zip,←HM.out,←HN.out];omega
     clear hok;go_wp2_with fail;go_ret
     exact⟨by first | rfl | (rw[hr];rfl),J5 HB.out hb⟩
  ·rw[if_pos (by have:=HN.out;have:=HM.out;omega)]at hR
   subst hR
   have hmn':((m:Int) != (n:Int))=true:=by simp;omega
   go_enter Tryz.func25,Tryz.ntmps25
   go_upto_region 1 with(fail)
   rw[←HW.out];go_wp2_with fail;refine ct.mono ?_;rintro e w1 ⟨rfl,hb1⟩;clear ct x0 x1 x2 x3 x4 x5;have x0:=(HL0.out.below hb1 HL0.out.lt).c 0 rfl;go_wp2_with fail;go_ret;exact⟨rfl,J5 HB.out hb1⟩
 ·rw[if_pos hz0]at hR;subst hR
  have hz1:(R != 0)=true:=by simpa using hz0
  go_enter Tryz.func25,Tryz.ntmps25
  go_upto_region 1 with(fail)
  rw[←HW.out];go_wp2_with fail;refine ct.mono ?_;rintro e w1 ⟨rfl,hb1⟩;clear ct x0 x1 x2 x3 x4 x5;go_wp2_with fail;go_ret;exact⟨rfl,J5 HB.out hb1⟩
def Ck.rowOk (k:Int) (r:List Vl):Bool:=decide ((r.length:Int)=k)&&r.all fun v=>Va.right v.1 v.2
theorem Ck.fits_rows {rs:List (List Vl)} {k:Int} (h:rs.length≤1000):Ck.fits rs k=rs.all (Ck.rowOk k):=by
 unfold Ck.fits;rw[decide_eq_true h,Bool.true_and]
 rfl
theorem Ck.data_bad {cols:List Int} {d:List (List (List Vl))} {q:Nat} {rs:List (List Vl)} {k:Int} (hz:(d.zip cols)[q]?=some (rs,k)) (h:Ck.fits rs k=false):Ck.fitAll cols d≠true:=by
 unfold Ck.fitAll;intro hh;have:=F6.1 hh _ (C8 hz);rw[h]at this
 simp at this
theorem Z5 {W0 W:World} {X:Addr} {v:Value} (h:W0.cell? X=some v) (hb:Below W0 W0 W):W.cell? X=some v:=(hb.cell (block_lt_of_cell h)).trans h
theorem A3W (a:Tr) (cols:List Int) (cv:Value) (u v dv:Value) (d:List (List (List Vl))) (w:World) (hc:Sl w cv (cols.map (Value.int .i64))) (hu:∃d,TsAt d w u a.ks) (hv:PsSome w v a.cs) (hd:Dts w dv d) (hsz:Tr.size a≤1000) :
  Calls Tryz.prog 18 #[.agg #[cv,a.k,a.t,u,v,a.h],dv] w
   fun e w'=>e=.returned (.int .i64 (Ck.data cols a d))∧Below w w w':=by
 obtain⟨A,c,rfl,hl⟩:=hu.elim fun d h=>h.form;obtain⟨A',c',rfl,hl'⟩:=hv.elim fun d h=>h.form;obtain⟨C,cc,hcv,_⟩:=id hc;subst hcv;obtain⟨D,dc,hdv,_,_⟩:=id hd;subst hdv;rw[E0]at hc ⊢;obtain⟨n,hn⟩:∃n,n=cols.length:=⟨_,rfl⟩;rw[←hn]at hc ⊢;obtain⟨m,hm⟩:∃m,m=d.length:=⟨_,rfl⟩;rw[←hm]at hd ⊢;obtain⟨W0,hW0⟩:∃W0,W0=w.alloc (Obj.cells #[.slice C n cc,a.k,a.t,.slice A a.ks.length c,.slice A' a.cs.length c',a.h] 28):=⟨_,rfl⟩;obtain⟨l0,hb0⟩:=L5 (cs:=[.slice C n cc,a.k,a.t,.slice A a.ks.length c,.slice A' a.cs.length c',a.h]) hW0;have x0:=l0.c 0 rfl;have x1:=l0.c 1 rfl;have x2:=l0.c 2 rfl;have x3:=l0.c 3 rfl;have x4:=l0.c 4 rfl;have x5:=l0.c 5 rfl;have ct:=A25 a cols _ _ _ W0 (hc.below hb0 (C3 _)) (hu.elim fun d h=>⟨d,h.below hb0 (C3 _)⟩) (hv.below hb0 (C3 _)) hsz;have HC:=J1 (hc.below hb0 (C3 _));have HD:=J1 (hd.below hb0 (C3 _));have HX0:=J1 x0;have HW:=J1 hW0;have HB:=J1 hb0;have HN:=J1 hn;have HM:=J1 hm;obtain⟨R,hR⟩:∃R,R=Ck.data cols a d:=⟨_,rfl⟩;rw[←hR];unfold Ck.data at hR;obtain⟨z,hz⟩:∃z,z=Ck.query cols a:=⟨_,rfl⟩;rw[←hz]at ct hR;have HZ:=J1 hz;clear hc hd hu hv hsz l0 hb0 hW0 hn hm hz
 by_cases hz0:z=0
 ·obtain⟨h64,hcol⟩:=Ck.query_zero (HZ.out.symm.trans hz0);subst hz0
  rw[if_neg (by simp)]at hR
  have HCOL:=J1 hcol
  have hn64:n≤64:=by have:=HN.out;omega
  clear hcol h64
  by_cases hmn:m=n
  ·rw[if_neg (by have:=HN.out;have:=HM.out;omega)]at hR
   have HR:=J1 hR;subst hmn;clear hR;go_enter Tryz.func18,Tryz.ntmps18
   go_upto_region 1 with(fail)
   rw[←HW.out];go_wp2_with fail;refine ct.mono ?_;rintro e w1 ⟨rfl,hb1⟩;clear ct x0 x1 x2 x3 x4 x5;have x0:=Z5 HX0.out hb1;go_wp2_with fail;clear x0
   go_loopw [6] (fun i wr=>∃q:Nat,q≤m∧i=.int .i64 q∧Hid (((d.zip cols).take q).all (fun x=>Ck.fits x.1 x.2)=true)∧Below W0 W0 wr) (fun i _=>m-(intOf i).toNat)
   case atStart=>exact⟨0,E3 _,rfl,J1 (by simp),hb1⟩
   case round =>
    obtain⟨q,hq,rfl,hok,hb⟩:=hrel
    by_cases hlt:q<m
    ·obtain⟨rs,gr⟩:∃x,d[q]?=some x:=⟨d[q]'(by have:=HM.out;omega),A8 _⟩
     obtain⟨x,gx⟩:∃x,cols[q]?=some x:=⟨cols[q]'(by have:=HN.out;omega),A8 _⟩
     have hxb:=HCOL.out x (C8 gx)
     obtain⟨k,rfl⟩:∃k:Nat,x=k:=⟨x.toNat,by omega⟩
     obtain⟨b1,o1,p1,rfl,_,hcell⟩:=HC.out.ints_at gx;obtain⟨b2,o2,p2,B2,e2,hD,_,hcell2,hrs⟩:=HD.out.at_ gr;subst hD;have gz:=A4v gr gx;have HGZ:=J1 gz;have HCE:=J1 hcell;have HCE2:=J1 hcell2;have HRS:=J1 hrs;obtain⟨B2',e2',hB2,_,hrow⟩:=hrs.at_
     obtain⟨rfl,rfl⟩:B2=B2'∧e2=e2':=by cases hB2;exact⟨rfl,rfl⟩
     have HROW:=J1 hrow;obtain⟨nr,hnr⟩:∃nr,nr=rs.length:=⟨_,rfl⟩;have HNR:=J1 hnr;have y2:=Z5 hcell2 hb;rw[←hnr]at y2
     have hk4:k≤4:=by omega
     clear gr gx gz hrs hxb hcell hcell2 hrow hB2 hnr
     by_cases hbig:1000<nr
     ·have hr:R=13:=by
       rw[HR.out,if_neg (Ck.data_bad HGZ.out _)]
       unfold Ck.fits;rw[decide_eq_false (by have:=HNR.out;omega),Bool.false_and]
      go_wp2_with fail;go_ret
      exact⟨by first | rfl | (rw[hr];rfl),J5 HB.out hb⟩
     ·have HFR:=J1 (show Ck.fits rs (k:Int)=rs.all (Ck.rowOk k) from Ck.fits_rows (by have:=HNR.out;omega))
      go_wp2_with fail;clear y2
      go_loopw [7] (fun i wr=>∃j:Nat,j≤nr∧i=.int .i64 j∧Hid ((rs.take j).all (Ck.rowOk k)=true)∧Below W0 W0 wr) (fun i _=>nr-(intOf i).toNat)
      case atStart=>exact⟨0,E3 _,rfl,J1 (by simp),hb⟩
      case round =>
       obtain⟨j,hj,rfl,hok3,hb3⟩:=hrel;have y2:=Z5 HCE2.out hb3;rw[←HNR.out]at y2
       by_cases hlt3:j<nr
       ·obtain⟨r,gr⟩:∃r,rs[j]?=some r:=⟨rs[j]'(by have:=HNR.out;omega),A8 _⟩
        obtain⟨b3,o3,p3,B3,e3,hB3,hc3,_,hra⟩:=HROW.out j r gr;subst hB3;have HC3:=J1 hc3;have HRA:=J1 hra;have y3:=Z5 hc3 hb3;have x0:=Z5 HX0.out hb3;have y1:=Z5 HCE.out hb3
        have ht:rs.take (j+1)=rs.take j++[r]:=by rw[D7,gr];rfl
        have HT:=J1 ht;have HGR:=J1 gr
        have hbad:=J1 (fun h:Ck.rowOk (k:Int) r=false=>show R=13 by
         rw[HR.out,if_neg (Ck.data_bad HGZ.out _)];rw[HFR.out,Bool.eq_false_iff];intro hh;have:=F6.1 hh r (C8 gr);rw[h]at this
         simp at this)
        clear gr ht hc3 hra
        by_cases hrk:r.length=k
        ·obtain⟨nv,hnv⟩:∃nv,nv=r.length:=⟨_,rfl⟩;rw[←hnv]at y3 hrk;have HNV:=J1 hnv;subst hrk;clear hnv
         go_upto_region 14 with(fail)
         go_quiet (fail)
         have hb4:Below W0 W0 (wr.drewN nq):=N2 hb3 nq;obtain⟨w4,hw4⟩:∃w4,w4=wr.drewN nq:=⟨_,rfl⟩;rw[←hw4]at hb4 ⊢;clear hw4 y1 y2 y3 x0;go_wp2_with fail
         go_loopw [8] (fun i wr=>∃l:Nat,l≤nv∧i=.int .i64 l∧Hid ((r.take l).all (fun v=>Va.right v.1 v.2)=true)∧Below W0 W0 wr) (fun i _=>nv-(intOf i).toNat)
         case atStart=>exact⟨0,E3 _,rfl,J1 (by simp),hb4⟩
         case round =>
          obtain⟨l,hl5,rfl,hok5,hb5⟩:=hrel;have y2:=Z5 HCE2.out hb5;rw[←HNR.out]at y2;have y3:=Z5 HC3.out hb5;rw[←HNV.out]at y3
          by_cases hlt5:l<nv
          ·obtain⟨vv,gv⟩:∃v,r[l]?=some v:=⟨r[l]'(by have:=HNV.out;omega),A8 _⟩
           obtain⟨b6,o6,p6,hB6,_,hc6⟩:=HRA.out.pair gv;subst hB6;obtain⟨z0,z1⟩:=hc6 wr hb5;have cr:=A16 vv.1 vv.2 wr;obtain⟨f,hf⟩:∃f,f=Va.right vv.1 vv.2:=⟨_,rfl⟩;rw[←hf]at cr;have HF:=J1 hf;have HGV:=J1 gv;clear hc6 gv hf
           cases f with
           | true =>
            have hok6:=J1 (show(r.take (l+1)).all (fun v=>Va.right v.1 v.2)=true by
             rw[D7,HGV.out,List.all_append,hok5.out]
             simp[←HF.out])
            go_wp2_with fail;refine cr.mono ?_;rintro e w7 ⟨rfl,hb7⟩;have hb8:=J5 hb5 hb7;clear cr y2 y3 z0 z1;go_wp2_with fail
            go_roundw
            case rel=>exact⟨l+1,by omega,by go_num,hok6,hb8⟩
            case measure=>simp[intOf];omega
           | false =>
            have hr:=hbad.out (by
             unfold Ck.rowOk;rw[Bool.and_eq_false_iff];refine .inr ?_;rw[Bool.eq_false_iff];intro hh;have:=F6.1 hh vv (C8 HGV.out);rw[←HF.out]at this
             simp at this)
            go_wp2_with fail;refine cr.mono ?_;rintro e w7 ⟨rfl,hb7⟩;have hb8:=J5 hb5 hb7;clear cr y2 y3 z0 z1;go_wp2_with fail;go_ret
            exact⟨by first | rfl | (rw[hr];rfl),J5 HB.out hb8⟩
          ·have hok6:=J1 (show(rs.take (j+1)).all (Ck.rowOk nv)=true by
            rw[HT.out,List.all_append,hok3.out,Bool.true_and,List.all_cons,List.all_nil,Bool.and_true];unfold Ck.rowOk
            rw[decide_eq_true (by have:=HNV.out;omega),Bool.true_and,←hok5.out,C7 (by have:=HNV.out;omega)])
           clear hok5;go_wp2_with fail
           go_roundw
           case rel=>exact⟨j+1,by omega,by go_num,hok6,hb5⟩
           case measure=>simp[intOf];omega
        ·have hrk':((r.length:Int) != (k:Int))=true:=by simp;omega
         have hr:=hbad.out (by unfold Ck.rowOk;rw[decide_eq_false (by omega),Bool.false_and])
         go_upto_region 14 with(fail)
         go_quiet (fail)
         go_wp2_with fail;go_ret
         exact⟨by first | rfl | (rw[hr];rfl),J5 HB.out (N2 hb3 _)⟩
       ·have hok4:=J1 (show((d.zip cols).take (q+1)).all (fun x=>Ck.fits x.1 x.2)=true by
         rw[D7,HGZ.out,List.all_append,hok.out];simp only[Option.toList_some,List.all_cons,List.all_nil,Bool.and_true,Bool.true_and]
         rw[HFR.out,←hok3.out,C7 (by have:=HNR.out;omega)])
        clear hok3;go_wp2_with fail
        go_roundw
        case rel=>exact⟨q+1,by omega,by go_num,hok4,hb3⟩
        case measure=>simp[intOf];omega
    ·have hr:R=0:=by
      rw[HR.out,if_pos];unfold Ck.fitAll;rw[←hok.out,C7];rw[List.length_zip,←HM.out,←HN.out];omega
     clear hok;go_wp2_with fail;go_ret
     exact⟨by first | rfl | (rw[hr];rfl),J5 HB.out hb⟩
  ·rw[if_pos (by have:=HN.out;have:=HM.out;omega)]at hR
   subst hR
   have hmn':((m:Int) != (n:Int))=true:=by simp;omega
   go_enter Tryz.func18,Tryz.ntmps18
   go_upto_region 1 with(fail)
   rw[←HW.out];go_wp2_with fail;refine ct.mono ?_;rintro e w1 ⟨rfl,hb1⟩;clear ct x0 x1 x2 x3 x4 x5;have x0:=Z5 HX0.out hb1;go_wp2_with fail;go_ret;exact⟨rfl,J5 HB.out hb1⟩
 ·rw[if_pos hz0]at hR;subst hR
  have hz1:(R != 0)=true:=by simpa using hz0
  go_enter Tryz.func18,Tryz.ntmps18
  go_upto_region 1 with(fail)
  rw[←HW.out];go_wp2_with fail;refine ct.mono ?_;rintro e w1 ⟨rfl,hb1⟩;clear ct x0 x1 x2 x3 x4 x5;go_wp2_with fail;go_ret;exact⟨rfl,J5 HB.out hb1⟩
theorem A7i (a:Tr) (cv:Value) (u v:Value) (w:World) (hu:∃d,TsAt d w u a.ks) (hv:PsSome w v a.cs) :
  Calls Tryz.prog 11 #[.agg #[cv,a.k,a.t,u,v,a.h]] w fun e w'=>e=.returned (.bool (decide (Tr.size a≤600)))∧Below w w w':=by
 obtain⟨A,c,rfl,hl⟩:=hu.elim fun d h=>h.form;obtain⟨A',c',rfl,hl'⟩:=hv.elim fun d h=>h.form;obtain⟨W0,hW0⟩:∃W0,W0=w.alloc (Obj.cells #[cv,a.k,a.t,.slice A a.ks.length c,.slice A' a.cs.length c',a.h] 28):=⟨_,rfl⟩;obtain⟨l0,hb0⟩:=L5 (cs:=[cv,a.k,a.t,.slice A a.ks.length c,.slice A' a.cs.length c',a.h]) hW0;have x1:=l0.c 1 rfl;have x2:=l0.c 2 rfl;have x3:=l0.c 3 rfl;have x4:=l0.c 4 rfl;have x5:=l0.c 5 rfl
 have ct:=hu.elim fun d h=>A3Y d a _ _ 601 W0 (h.below hb0 (C3 _)) (hv.below hb0 (C3 _)) (by decide) (by decide)
 have HW:=J1 hW0
 have hd:decide (Tr.size a≤600)=decide (min (Tr.size a:Int) 601≤600):=by
  by_cases h:Tr.size a≤600
  ·rw[decide_eq_true h,decide_eq_true (by omega)]
  ·rw[decide_eq_false h,decide_eq_false (by omega)]
 rw[hd];obtain⟨m,hm⟩:∃m,m=min (Tr.size a:Int) 601:=⟨_,rfl⟩;rw[←hm]at ct ⊢;clear hW0 l0 hu hv hd hm;go_enter Tryz.func11,Tryz.ntmps11
 go_upto_region 1 with(fail)
 rw[←HW.out];go_wp2_with fail;refine ct.mono ?_;rintro e w1 ⟨rfl,hb1⟩;clear ct x1 x2 x3 x4 x5;go_wp2_with fail;go_ret;exact⟨rfl,J5 hb0 hb1⟩
theorem A36 (dv:Value) (d:List (List (List Vl))) (w:World) (hd:Dts w dv d) :
  Calls Tryz.prog 17 #[dv] w fun e w'=>∃b,e=.returned (.bool b)∧w=w':=by
 obtain⟨D,dc,hdv,_,_⟩:=id hd;subst hdv;have HD:=J1 hd;obtain⟨m,hm⟩:∃m,m=d.length:=⟨_,rfl⟩;rw[←hm]at HD ⊢;have HM:=J1 hm;clear hd hm;go_enter Tryz.func17,Tryz.ntmps17;go_wp2_with fail
 go_loopw [3,4] (fun s i wr=>∃(z:Int) (q:Nat),q≤70∧i=.int .i64 q∧s=.int .i64 z∧w=wr) (fun _ i _=>70-(intOf i).toNat)
 case atStart=>exact⟨0,0,by omega,rfl,rfl,rfl⟩
 case round =>
  obtain⟨z,q,hq,rfl,rfl,rfl⟩:=hrel
  by_cases hlt:q<m
  ·by_cases h70:q<70
   ·obtain⟨rs,gr⟩:∃x,d[q]?=some x:=⟨d[q]'(by have:=HM.out;omega),A8 _⟩
    obtain⟨b2,o2,p2,B2,e2,hD,_,hcell2,hrs⟩:=HD.out.at_ gr;subst hD;obtain⟨B2',e2',hB2,_,hrow⟩:=hrs.at_
    obtain⟨rfl,rfl⟩:B2=B2'∧e2=e2':=by cases hB2;exact⟨rfl,rfl⟩
    have HROW:=J1 hrow;obtain⟨nr,hnr⟩:∃nr,nr=rs.length:=⟨_,rfl⟩;rw[←hnr]at hcell2;have HNR:=J1 hnr;clear gr hrs hrow hB2 hnr;go_wp2_with fail
    go_loopw [5] (fun i wr=>∃j:Nat,j≤2000∧i=.int .i64 j∧w=wr) (fun i _=>2000-(intOf i).toNat)
    case atStart=>exact⟨0,by omega,rfl,rfl⟩
    case round =>
     obtain⟨j,hj,rfl,rfl⟩:=hrel
     by_cases hlt3:j<nr
     ·by_cases h2:j<2000
      ·obtain⟨r,gr⟩:∃r,rs[j]?=some r:=⟨rs[j]'(by have:=HNR.out;omega),A8 _⟩
       obtain⟨b3,o3,p3,B3,e3,hB3,hc3,_,_⟩:=HROW.out j r gr;subst hB3;obtain⟨nv,hnv⟩:∃nv,nv=r.length:=⟨_,rfl⟩;rw[←hnv]at hc3;clear gr hnv
       by_cases h20:20<nv
       ·go_wp2_with fail
        all_goals(go_ret;first | exact⟨_,rfl,rfl⟩ | exact⟨.inl rfl,rfl⟩ | exact⟨.inr rfl,rfl⟩ | exact⟨_,rfl⟩ | rfl | trivial)
       ·go_wp2_with fail
        go_roundw
        case rel=>exact⟨j+1,by omega,by go_num,by first | rfl | trivial⟩
        case measure=>simp[intOf];omega
      ·go_wp2_with fail
       go_roundw
       case rel=>exact⟨_,q+1,by omega,by go_num,by first | rfl | trivial,by first | rfl | trivial⟩
       case measure=>simp[intOf];omega
     ·go_wp2_with fail
      go_roundw
      case rel=>exact⟨_,q+1,by omega,by go_num,by first | rfl | trivial,by first | rfl | trivial⟩
      case measure=>simp[intOf];omega
   ·by_cases h66:m≤66
    ·go_wp2_with fail
     all_goals(go_ret;first | exact⟨_,rfl,rfl⟩ | exact⟨.inl rfl,rfl⟩ | exact⟨.inr rfl,rfl⟩ | exact⟨_,rfl⟩ | rfl | trivial)
    ·go_wp2_with fail
     all_goals(go_ret;first | exact⟨_,rfl,rfl⟩ | exact⟨.inl rfl,rfl⟩ | exact⟨.inr rfl,rfl⟩ | exact⟨_,rfl⟩ | rfl | trivial)
  ·by_cases h66:m≤66
   ·go_wp2_with fail
    all_goals(go_ret;first | exact⟨_,rfl,rfl⟩ | exact⟨.inl rfl,rfl⟩ | exact⟨.inr rfl,rfl⟩ | exact⟨_,rfl⟩ | rfl | trivial)
   ·go_wp2_with fail
    all_goals(go_ret;first | exact⟨_,rfl,rfl⟩ | exact⟨.inl rfl,rfl⟩ | exact⟨.inr rfl,rfl⟩ | exact⟨_,rfl⟩ | rfl | trivial)
set_option maxRecDepth 100000
open Go.RowKit Go.WideShapes Go.ChangeShapes Go.Deep
section
variable {H:Type} {enc:TypeId × Value→H} {W:World}
theorem A67 (n:Nat) (v:Value) (y:DataW H × List MemPlace) (h:DataW.trod enc Tryz.prog W 0 (fun _=>true) true n 22 [v]=some y):∃l:List Int,Sl W v (l.map (Value.int .i64)):=by
 rcases DataW.trod_slice Tryz.underlying22 h with⟨hv,_⟩ | ⟨a,len,cap,elems,rest,m,hm,hv,_,_,hl,hcap,hlen,hel,_,_⟩
 ·obtain rfl:v=.slice none 0 0:=by simpa using hv
  exact⟨[],none,0,rfl,by simp,fun j u hu=>by simp at hu⟩
 ·obtain rfl:v=.slice (some a) len cap:=by simpa using hv
  rw[show Tryz.prog.cellsOf 3=1 by kernel_rfl]at hel
  have each:∀i,i<len→∃k:Int,W.cell? (a.add i)=some (.int .i64 k):=by
   intro i hi;have h1:=hel i hi
   rw[A8 (by omega)]at h1
   obtain⟨cs',h2,h3⟩:=Option.bind_eq_some_iff.1 h1;obtain⟨k,hk,_,_⟩:=DataW.trod_int Tryz.underlying3 h3;obtain⟨_,_,hc⟩:=World.cells?_some h2
   have h0:=hc 0 (by decide)
   rw[hk]at h0
   have e0:(a.add (i*1)).add 0=a.add i:=by unfold Addr.add;simp
   rw[e0]at h0;exact⟨k,h0⟩
  obtain⟨f,hf⟩:=choose_lt each
  refine⟨(List.range len).map f,some a,cap,by simp,by simpa using(by omega),fun j u hu=>?_⟩
  have hj:j<len:=by
   by_cases h:j<len
   ·exact h
   ·rw[E6 (by simp;omega)]at hu;cases hu
  obtain rfl:Value.int .i64 (f j)=u:=by simpa[hj]using hu
  obtain⟨b,o,p⟩:=a;refine⟨b,o,p,rfl,?_,hf j hj⟩;have:=block_lt_of_cell (hf j hj)
  rwa[L7]at this
theorem A5k {r:Reach} {b0:Nat} {v:Value} {d:DataW H} {p:List MemPlace} (hv:Value.okWide Tryz.prog W r b0 28 v) (h:DataW.Trod enc Tryz.prog W 0 (fun _=>true) true 28 v d p) :
  ∃(cols:List Int) (a:Tr) (cv x y:Value),v=.agg #[cv,a.k,a.t,x,y,a.h]∧Sl W cv (cols.map (Value.int .i64))∧(∃D,TsAt D W x a.ks)∧PsSome W y a.cs:=by
 obtain⟨⟨cs⟩,rfl,_⟩:=okWide_struct Tryz.underlying28 hv;obtain⟨fuel,hf⟩:=h;obtain⟨xs,m,hm,_,hl,hlen,hg⟩:=DataW.trod_struct Tryz.underlying28 hf
 have hcs:cs.length=6:=by
  have:=hl.trans (show Tryz.prog.cellsOf 28=6 by kernel_rfl)
  exact this
 match cs,hcs with
 | [c0,c1,c2,c3,c4,c5],_ =>
  obtain⟨_,_,g0⟩:=N3 hg 0 22 0 1 rfl (by kernel_rfl) hlen
  obtain⟨_,_,g1⟩:=N3 hg 1 26 1 5 rfl (by kernel_rfl) hlen
  obtain⟨l,hsl⟩:=A67 _ _ _ g0;obtain⟨k,t,b,u,v,m',z,z',hcs',_,h4,h5⟩:=A1Z g1;obtain⟨D,ts,hts⟩:=A46 m' u z h4;obtain⟨D',ps,hps⟩:=A2b m' v z' h5;have hcs2:[c1,c2,c3,c4,c5]=[.int .i64 k,.int .i64 t,u,v,.bool b]:=hcs';simp only[List.cons.injEq,and_true]at hcs2;obtain⟨rfl,rfl,rfl,rfl,rfl⟩:=hcs2;exact⟨l,.mk k t b ps ts,c0,_,_,rfl,hsl,⟨D,hts⟩,D',hps⟩
end
end Go.Proofs.YtbddhkgbpjhhaaaGreatDoor
