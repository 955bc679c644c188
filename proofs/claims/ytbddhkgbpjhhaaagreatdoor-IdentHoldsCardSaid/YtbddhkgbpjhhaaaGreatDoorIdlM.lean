/-
  PACKAGE ident: Ways' function: what it is handed is copied into its list.
-/
import Derived.Test.YtbddhkgbpjhhaaaGreatDoorIdkM
set_option maxHeartbeats 6400000
set_option maxRecDepth 100000
namespace Go.Proofs.YtbddhkgbpjhhaaaGreatDoor
open Go.RowKit Go.Sort
theorem TrOn.mono17 {T T':Nat→Prop} {w:World} {x:TrV} (h:TrOn T w x) (hs:∀k,T k→T' k):TrOn T' w x:=h.keep (C3 _) fun k hk _=>⟨rfl,hs k hk⟩
theorem TrOn.below17 {T:Nat→Prop} {w w':World} {x:TrV} (h:TrOn T w x) (hb:Below w w w'):TrOn T w' x:=h.keep hb.size fun k hk hlt=>⟨hb.block k hlt,hk⟩
theorem A2f {base n c size g:Nat} {T:TypeId} (ys:List Value):∀{w:World} {xs:List Value} (o:Nat),w.ownsRow base T size (.slice (some ⟨g,0,none⟩) n c) n xs→(setCells w g o ys).ownsRow base T size (.slice (some ⟨g,0,none⟩) n c) n (setMany xs o ys):=by
 induction ys with
 | nil=>intro w xs o h;exact h
 | cons x r ih=>intro w xs o h;exact ih (o+1) (h.stored o x).1
theorem A21 (M:List TrV) (m z:TrV):setMany (trCells (M++[z])) (M.length*5) (m.1.cells m.2.1 m.2.2)=trCells (M++[m]):=by
 have hq:M.length<(M++[z]).length:=by simp
 have e:(M++[z]).set M.length m=M++[m]:=by simp
 obtain⟨u1,u2,u3⟩:=Y7 (y:=m) hq;rw[e]at u1 u2 u3;have h5:(m.1.cells m.2.1 m.2.2).length=5:=rfl;refine List.ext_getElem? fun k=>?_
 by_cases hk:k<M.length*5∨M.length*5+5≤k
 ·rw[A0u _ _ _ _ (by rw[h5];exact hk),u2 k hk]
 ·obtain⟨i,rfl⟩:∃i,k=M.length*5+i:=⟨k-M.length*5,by omega⟩
  have hi:i<5:=by omega
  rw[A0O _ _ _ _ (by rw[h5];exact hi) (by rw[h5,M7,C6,List.length_singleton];omega),u3 i hi]
theorem A1l {w:World} {g:Nat} {T:TypeId} {xs:List Value} (h:RowLies w g T xs) {o n:Nat} (hn:o+n≤xs.length):w.there g o n:=fun j hj=>by
 rw[h.cell (A8 (show o+j<xs.length by omega))]
 exact⟨rfl,h.free _⟩
theorem A02 {W W9:World} {g o:Nat} {L:List Value} (h:W9=setCells W g o L):Keeps (fun k=>k≠g) W W9 :=
 ⟨by rw[h];exact V6 _ _ _ _,by rw[h];exact S0 _ _ _ _,by rw[h];exact Q1 _ _ _ _,by rw[h,N0];exact C3 _,fun k _ hne=>by rw[h];exact M6 _ _ hne _ _ _⟩
theorem A2I {P:Program} (w:World) {o:Oper} {a:Act} {K:Act→World→Prop} {Q:Exit→Act→World→Prop} (s x:Operand) (t:TypeId)
  (ho:o.op=.call { callee:=.builtin .append,args:=#[s,x],argTypes:=#[t,t] })
  (base:Nat) (e:TypeId) (i:TypeInfo) (z:Value) (size bytes:Nat) (ht:P.underlying t=some (.slice e)) (hi:P.info? e=some i) (hz:i.zero=some z)
  (hsize:i.size=size) (hby:i.bytes=bytes) (hzs:z.cells.size=size) (hs0:0<size)
  (v:Value) (n:Nat) (xs:List Value) (hs:a.eval s=v) (hown:w.ownsRow base e size v n xs)
  (ad:Addr) (m c:Nat) (news:List Value) (hx:a.eval x=.slice (some ad) m c) (hl:news.length=m*size) (hc:∀j u,news[j]?=some u→w.cell? (ad.add j)=some u) (h1:∀u∈news,u.oneCell'=true)
  (h63:n+m≤maxLen) (hbytes:(n+m)*bytes≤140737488355328) (hbase:base≤w.heap.size)
  (h:∀v' w',w'.ownsRow base e size v' (n+m) (xs++news)→w.grownBy w' v.ownBlock→(v'.ownBlock=v.ownBlock∨∃g,v'.ownBlock=some g∧w.heap.size≤g)→K (a.put o.dst v') w'):o.wp P a w K Q:=by
 obtain⟨v',w',hrun,r1,r2,r3⟩:=V7 (P:=P) w base t o.type e i z size bytes ht hi hz hsize hby hzs hs0 v n xs hown ad m c news hl hc h1 h63 hbytes hbase;unfold Oper.wp
 simp[execOp,ho,resolve,invoke,builtin,hs,hx,hrun,Result.andThen]
 exact h v' w' r1 r2 r3
theorem Kept.more {base lb:Nat} {L:List Tr} {O:Nat→Prop} {w W W8 W9:World} {v:Value} {M:List TrV} {t:Tr} {a b:Value} {g c:Nat}
  (hlow:∀k,O k→base≤k∧k<w.heap.size) (hbox:lb<w.heap.size∧base≤lb∧O lb) (hM:M.map (·.1)=L) (hrow:TwRow (fun k=>O k∧k≠lb) base w v M) (hown:∀k,v.ownBlock=some k→O k∧k≠lb)
  (hb:Below w w W) (ht:TrOn (fun k=>w.heap.size≤k) W (t,a,b))
  (h8:W8.ownsRow base 26 5 (.slice (some ⟨g,0,none⟩) (M.length+1) c) (M.length+1) (trCells M++[.int .i64 0,.int .i64 0,.slice none 0 0,.slice none 0 0,.bool false])) (hg:W.grownBy W8 v.ownBlock)
  (hw:(Value.slice (some ⟨g,0,none⟩) (M.length+1) c).ownBlock=v.ownBlock∨∃g',(Value.slice (some ⟨g,0,none⟩) (M.length+1) c).ownBlock=some g'∧W.heap.size≤g')
  (h9:W9.ownsRow base 26 5 (.slice (some ⟨g,0,none⟩) (M.length+1) c) (M.length+1) (setMany (trCells M++[.int .i64 0,.int .i64 0,.slice none 0 0,.slice none 0 0,.bool false]) (M.length*5) (t.cells a b)))
  (hl9:Lies W9 lb 23 [.slice (some ⟨g,0,none⟩) (M.length+1) c]) (hk9:Keeps (fun k=>k≠g∧k≠lb) W8 W9) :
  ∃O',Kept base lb (L++[t]) O' W9∧Keeps (fun k=>¬O k) w W9∧∀k,O' k→O k∨w.heap.size≤k:=by
 have hgw:(O g∧g≠lb)∨W.heap.size≤g:=by
  rcases hw with e | ⟨g',e,hge⟩
  ·exact .inl (hown g e.symm)
  ·have e2:some g=some g':=e
   cases e2;exact .inr hge
 have hs1:=hb.size;have hs2:=hg.size;have hs3:=hk9.size
 have hglb:g≠lb:=hgw.elim (fun h=>h.2) (fun h=>by omega)
 have hR:∀k,k<W.heap.size→v.ownBlock≠some k→k≠lb→k≠g→W9.heap[k]?=W.heap[k]?:=fun k h1 h2 h3 h4=>(hk9.same k (by omega) ⟨h4,h3⟩).trans (hg.block k h1 (fun e=>h2 e.symm))
 have hne:∀k,k<W.heap.size→v.ownBlock≠some k→k≠g:=fun k h1 h2 e=>by
  subst e
  rcases hw with e | ⟨g',e,hge⟩
  ·exact h2 e.symm
  ·have e2:some k=some g':=e
   cases e2;omega
 refine⟨fun k=>O k∨(w.heap.size≤k∧k<W9.heap.size),⟨⟨by omega,hbox.2.1,.inl hbox.2.2⟩,fun k hk=>?_,_,M++[(t,a,b)],by rw[List.map_append,hM];rfl,hl9,⟨?_,fun m hm=>?_⟩,fun k hk=>?_⟩,⟨?_,?_,?_,by omega,fun k hk hn=>?_⟩,fun k hk=>hk.imp id (fun h=>h.1)⟩
 ·rcases hk with hk | hk
  ·exact⟨(hlow k hk).1,by have:=(hlow k hk).2;omega⟩
  ·exact⟨by have:=hbox.1;have:=hbox.2.1;omega,hk.2⟩
 ·rw[C6,List.length_singleton,←A21 M (t,a,b) (Id.zero,(),.slice none 0 0),A0t];exact h9
 ·rcases G3.1 hm with hm | hm
  ·exact(hrow.tr m hm).keep (by omega) fun k hk hlt=>⟨(hR k (by omega) hk.1 hk.2.2 (hne k (by omega) hk.1)).trans (hb.block k hlt),fun e=>hne k (by omega) hk.1 (by cases e;rfl),.inl hk.2.1,hk.2.2⟩
  ·rw[G4]at hm;subst hm
   have h0:∀k,w.heap.size≤k→v.ownBlock≠some k:=fun k hk e=>by have:=(hlow k (hown k e).1).2;omega
   exact ht.keep (by omega) fun k hk hlt=>⟨hR k hlt (h0 k hk) (by have:=hbox.1;omega) (hne k hlt (h0 k hk)),fun e=>hne k hlt (h0 k hk) (by cases e;rfl),.inr ⟨hk,by omega⟩,by have:=hbox.1;omega⟩
 ·have e2:some g=some k:=hk;cases e2;refine⟨?_,hglb⟩
  rcases hgw with h | h
  ·exact .inl h.1
  ·exact .inr ⟨by omega,(h9.lt g rfl).2⟩
 ·exact hk9.os.trans (hg.os.trans hb.os)
 ·exact hk9.tape.trans (hg.tape.trans hb.tape)
 ·exact hk9.output.trans (hg.output.trans hb.output)
 ·have e1:v.ownBlock≠some k:=fun e=>hn (hown k e).1
  exact(hR k (by omega) e1 (fun e=>hn (e ▸ hbox.2.2)) (hne k (by omega) e1)).trans (hb.block k hk)
theorem A44 (N base lb:Nat) (hN:N≤1000) (L:List Tr) (hL:L.length≤1000000) (O:Nat→Prop) (w:World) (t:Tr) (u v:Value) (hK:Kept base lb L O w) (ht:TrOn (fun k=>¬O k) w (t,u,v)) (hs:Tr.size t=N) :
  Calls Tryz.prog 31 #[.agg #[t.k,t.t,u,v,t.h],.pointer (some ⟨lb,0,none⟩)] w (Handed (Kept base lb) (L++[t]) O w):=by
 obtain⟨i0,hi,hz0,hz1,hz2⟩:=info_parts Tryz.infoTree;obtain⟨tA,tC,e1,_⟩:=ht.1.elim fun d h=>h.at_.form;obtain⟨sA,sC,e2,_⟩:=ht.2.elim fun d h=>h.at_.form;change u=.slice tA t.ks.length tC at e1;change v=.slice sA t.cs.length sC at e2;subst e1 e2;obtain⟨hbox,hlow,r,M,hM,hl,hrow,hown⟩:=hK;obtain⟨A,c,hr,_⟩:=A2e hrow.own;subst hr
 have hML:M.length≤1000000:=by rw[←hM,E0]at hL;exact hL
 obtain⟨W0,hW0⟩:∃W0,W0=w.alloc (Obj.cells #[t.k,t.t,.slice tA t.ks.length tC,.slice sA t.cs.length sC,t.h] 26):=⟨_,rfl⟩;obtain⟨l0,hb0⟩:=L5 (cs:=[t.k,t.t,.slice tA t.ks.length tC,.slice sA t.cs.length sC,t.h]) hW0
 have CC:=J1 (fun W (h:Below W0 W0 W)=>A1n t (.slice tA t.ks.length tC) (.slice sA t.cs.length sC) W (((ht.keep (T':=fun _=>True) (J5 hb0 h).size fun k hk hlt=>⟨(J5 hb0 h).block k hlt,trivial⟩).hang).1) (((ht.keep (T':=fun _=>True) (J5 hb0 h).size fun k hk hlt=>⟨(J5 hb0 h).block k hlt,trivial⟩).hang).2) (by rw[hs];exact hN))
 obtain⟨n,hn⟩:∃n,n=M.length:=⟨_,rfl⟩
 have HL:=J1 (fun W (h:Below w w W)=>(show W.cell? ⟨lb,0,none⟩=some (.slice A n c) from by rw[hn];exact(hl.below h hl.lt).c 0 rfl))
 have HLL:=J1 (fun W (h:Below w w W)=>hl.below h hl.lt);have HROW:=J1 hrow
 have HOWN:=J1 (show ∀k,(Value.slice A n c).ownBlock=some k→O k∧k≠lb from by rw[hn];exact hown)
 have HLOW:=J1 hlow;have HBOX:=J1 hbox;have HMM:=J1 hM;have HN:=J1 hn
 have hn9:n≤1000000:=by omega
 have HW:=J1 hW0;have HB0:=J1 hb0;have hS:Lies W0.drew w.heap.size 26 [t.k,t.t,.slice tA t.ks.length tC,.slice sA t.cs.length sC,t.h]:=l0;have hB:=(Below.refl W0 W0).drew;clear hM hl hrow hown hlow hbox ht hW0 l0 hb0 hn hML hL;go_enter Tryz.func31,Tryz.ntmps31
 go_upto_region 1 with(fail)
 rw[←HW.out]
 refine wp_region_held_drew (S:=fun W=>Lies W w.heap.size 26 [t.k,t.t,.slice tA t.ks.length tC,.slice sA t.cs.length sC,t.h]) (by kernel_rfl) hS (fun _=>?_)
 obtain⟨wD,hwD⟩:∃wD,wD=W0.drew:=⟨_,rfl⟩;rw[←hwD]at hS hB ⊢;clear hwD
 refine Q7 (l':=Array.replicate 9 false) (m':=9) (by kernel_rfl) (by kernel_rfl) ?_
 refine tk9 (i:=1) (v:=?v6) rfl (Or.inl ⟨by rfl,?hy6⟩) hS ?rest6
 case hy6=>(intro w hSw;have y0:=hSw.c 0 rfl;have y1:=hSw.c 1 rfl;have y2:=hSw.c 2 rfl;have y3:=hSw.c 3 rfl;have y4:=hSw.c 4 rfl;go_simp;try with_reducible rfl)
 try simp only[Act.put,A7,C4,C5]
 refine wpAnyH_ready (rs:=[0,2,4]) (by kernel_rfl) (by simp) ?_
 refine J3 rfl (fun K hK=>?_) (J3 rfl (fun K hK=>?_) (J3 rfl (fun K hK=>?_) J4))
 rw[if_pos (by kernel_rfl)]
 have x0:=HL.out _ (J5 HB0.out hB);go_simp;clear x0;refine hK.out _ _ hS (fun _=>?_);clear hK K
 try simp only[Act.put,A7,C4,C5]
 refine tk9 (i:=3) (v:=?v1) rfl (Or.inl ⟨by rfl,?hy1⟩) hS ?rest1
 case hy1=>(intro w hSw;go_simp;try with_reducible rfl)
 try simp only[Act.put,A7,C4,C5]
 refine wpAnyH_ready (rs:=[2,4]) (by kernel_rfl) (by simp) ?_
 refine J3 rfl (fun K hK=>?_) (J3 rfl (fun K hK=>?_) J4)
 rw[if_pos (by kernel_rfl)]
 go_simp;refine(CC.out _ hB).mono ?_;rintro E wC ⟨u',v',rfl,hon,hbC⟩
 try dsimp only
 obtain⟨A1,c1,hA1,_⟩:=hon.1.elim fun d h=>h.at_.form;obtain⟨A2,c2,hA2,_⟩:=hon.2.elim fun d h=>h.at_.form;change u'=.slice A1 t.ks.length c1 at hA1;change v'=.slice A2 t.cs.length c2 at hA2;subst hA1 hA2;have HON:=J1 (hon.mono17 (T':=fun k=>w.heap.size≤k) fun k hk=>D5 (J5 HB0.out hB).size hk);replace hS:=hS.below hbC hS.lt;replace hB:=J5 hB hbC;clear hon hbC;refine hK.out _ _ hS (fun _=>?_);clear hK K
 try simp only[Act.put,A7,C4,C5]
 refine wpAnyH_ready (rs:=[4]) (by kernel_rfl) (by simp) ?_
 refine J3 rfl (fun K hK=>?_) J4
 rw[if_pos (by kernel_rfl)]
 go_simp;obtain⟨wZ,hwZ⟩:∃wZ,wZ=wC:=⟨_,rfl⟩;rw[←hwZ]at hS hB ⊢;have HZ:=J1 (Lies.new wZ 26 [z9,z9,(),(),false]);have hbZ:=J6 wZ (Obj.cells #[z9,z9,(),(),false] 26);rw[←hwZ]at HON;replace HON:=J1 (HON.out.below17 hbZ);replace hS:=hS.below hbZ hS.lt;replace hB:=J5 hB hbZ;obtain⟨g7,hg7⟩:∃g,g=wZ.heap.size:=⟨_,rfl⟩;rw[←hg7]at HZ ⊢;clear hbZ hwZ hg7;refine hK.out _ _ hS (fun _=>?_);clear hK K
 try simp only[Act.put,A7,C4,C5]
 obtain⟨W,hW⟩:∃W,W=(wZ.alloc (Obj.cells #[z9,z9,(),(),false] 26)):=⟨_,rfl⟩;rw[←hW]at hS hB HON HZ ⊢;clear hW
 rotate_left
 rw[if_pos (by kernel_rfl)]
 go_simp;obtain⟨wZ,hwZ⟩:∃wZ,wZ=wD:=⟨_,rfl⟩;rw[←hwZ]at hS hB ⊢;have HZ:=J1 (Lies.new wZ 26 [z9,z9,(),(),false]);have hbZ:=J6 wZ (Obj.cells #[z9,z9,(),(),false] 26);replace hS:=hS.below hbZ hS.lt;replace hB:=J5 hB hbZ;obtain⟨g7,hg7⟩:∃g,g=wZ.heap.size:=⟨_,rfl⟩;rw[←hg7]at HZ ⊢;clear hbZ hwZ hg7;refine hK.out _ _ hS (fun _=>?_);clear hK K
 try simp only[Act.put,A7,C4,C5]
 refine wpAnyH_ready (rs:=[2]) (by kernel_rfl) (by simp) ?_
 refine J3 rfl (fun K hK=>?_) J4
 rw[if_pos (by kernel_rfl)]
 go_simp;refine(CC.out _ hB).mono ?_;rintro E wC ⟨u',v',rfl,hon,hbC⟩
 try dsimp only
 obtain⟨A1,c1,hA1,_⟩:=hon.1.elim fun d h=>h.at_.form;obtain⟨A2,c2,hA2,_⟩:=hon.2.elim fun d h=>h.at_.form;change u'=.slice A1 t.ks.length c1 at hA1;change v'=.slice A2 t.cs.length c2 at hA2;subst hA1 hA2;have HON:=J1 (hon.mono17 (T':=fun k=>w.heap.size≤k) fun k hk=>D5 (J5 HB0.out hB).size hk);replace hS:=hS.below hbC hS.lt;replace hB:=J5 hB hbC;replace HZ:=J1 (HZ.out.below hbC HZ.out.lt);clear hon hbC;refine hK.out _ _ hS (fun _=>?_);clear hK K
 try simp only[Act.put,A7,C4,C5]
 obtain⟨W,hW⟩:∃W,W=wC:=⟨_,rfl⟩;rw[←hW]at hS hB HON HZ ⊢;clear hW
 rotate_left
 rw[if_pos (by kernel_rfl)]
 go_simp;refine(CC.out _ hB).mono ?_;rintro E wC ⟨u',v',rfl,hon,hbC⟩
 try dsimp only
 obtain⟨A1,c1,hA1,_⟩:=hon.1.elim fun d h=>h.at_.form;obtain⟨A2,c2,hA2,_⟩:=hon.2.elim fun d h=>h.at_.form;change u'=.slice A1 t.ks.length c1 at hA1;change v'=.slice A2 t.cs.length c2 at hA2;subst hA1 hA2;have HON:=J1 (hon.mono17 (T':=fun k=>w.heap.size≤k) fun k hk=>D5 (J5 HB0.out hB).size hk);replace hS:=hS.below hbC hS.lt;replace hB:=J5 hB hbC;clear hon hbC;refine hK.out _ _ hS (fun _=>?_);clear hK K
 try simp only[Act.put,A7,C4,C5]
 refine wpAnyH_ready (rs:=[0,4]) (by kernel_rfl) (by simp) ?_
 refine J3 rfl (fun K hK=>?_) (J3 rfl (fun K hK=>?_) J4)
 rw[if_pos (by kernel_rfl)]
 have x0:=HL.out _ (J5 HB0.out hB);go_simp;clear x0;refine hK.out _ _ hS (fun _=>?_);clear hK K
 try simp only[Act.put,A7,C4,C5]
 refine tk9 (i:=3) (v:=?v2) rfl (Or.inl ⟨by rfl,?hy2⟩) hS ?rest2
 case hy2=>(intro w hSw;go_simp;try with_reducible rfl)
 try simp only[Act.put,A7,C4,C5]
 refine wpAnyH_ready (rs:=[4]) (by kernel_rfl) (by simp) ?_
 refine J3 rfl (fun K hK=>?_) J4
 rw[if_pos (by kernel_rfl)]
 go_simp;obtain⟨wZ,hwZ⟩:∃wZ,wZ=wC:=⟨_,rfl⟩;rw[←hwZ]at hS hB ⊢;have HZ:=J1 (Lies.new wZ 26 [z9,z9,(),(),false]);have hbZ:=J6 wZ (Obj.cells #[z9,z9,(),(),false] 26);rw[←hwZ]at HON;replace HON:=J1 (HON.out.below17 hbZ);replace hS:=hS.below hbZ hS.lt;replace hB:=J5 hB hbZ;obtain⟨g7,hg7⟩:∃g,g=wZ.heap.size:=⟨_,rfl⟩;rw[←hg7]at HZ ⊢;clear hbZ hwZ hg7;refine hK.out _ _ hS (fun _=>?_);clear hK K
 try simp only[Act.put,A7,C4,C5]
 obtain⟨W,hW⟩:∃W,W=(wZ.alloc (Obj.cells #[z9,z9,(),(),false] 26)):=⟨_,rfl⟩;rw[←hW]at hS hB HON HZ ⊢;clear hW
 rotate_left
 rw[if_pos (by kernel_rfl)]
 go_simp;obtain⟨wZ,hwZ⟩:∃wZ,wZ=wC:=⟨_,rfl⟩;rw[←hwZ]at hS hB ⊢;have HZ:=J1 (Lies.new wZ 26 [z9,z9,(),(),false]);have hbZ:=J6 wZ (Obj.cells #[z9,z9,(),(),false] 26);rw[←hwZ]at HON;replace HON:=J1 (HON.out.below17 hbZ);replace hS:=hS.below hbZ hS.lt;replace hB:=J5 hB hbZ;obtain⟨g7,hg7⟩:∃g,g=wZ.heap.size:=⟨_,rfl⟩;rw[←hg7]at HZ ⊢;clear hbZ hwZ hg7;refine hK.out _ _ hS (fun _=>?_);clear hK K
 try simp only[Act.put,A7,C4,C5]
 refine wpAnyH_ready (rs:=[0]) (by kernel_rfl) (by simp) ?_
 refine J3 rfl (fun K hK=>?_) J4
 rw[if_pos (by kernel_rfl)]
 have x0:=HL.out _ (J5 HB0.out hB);go_simp;clear x0;refine hK.out _ _ hS (fun _=>?_);clear hK K
 try simp only[Act.put,A7,C4,C5]
 refine tk9 (i:=3) (v:=?v3) rfl (Or.inl ⟨by rfl,?hy3⟩) hS ?rest3
 case hy3=>(intro w hSw;go_simp;try with_reducible rfl)
 try simp only[Act.put,A7,C4,C5]
 obtain⟨W,hW⟩:∃W,W=(wZ.alloc (Obj.cells #[z9,z9,(),(),false] 26)):=⟨_,rfl⟩;rw[←hW]at hS hB HON HZ ⊢;clear hW
 rotate_left
 rw[if_pos (by kernel_rfl)]
 go_simp;obtain⟨wZ,hwZ⟩:∃wZ,wZ=wD:=⟨_,rfl⟩;rw[←hwZ]at hS hB ⊢;have HZ:=J1 (Lies.new wZ 26 [z9,z9,(),(),false]);have hbZ:=J6 wZ (Obj.cells #[z9,z9,(),(),false] 26);replace hS:=hS.below hbZ hS.lt;replace hB:=J5 hB hbZ;obtain⟨g7,hg7⟩:∃g,g=wZ.heap.size:=⟨_,rfl⟩;rw[←hg7]at HZ ⊢;clear hbZ hwZ hg7;refine hK.out _ _ hS (fun _=>?_);clear hK K
 try simp only[Act.put,A7,C4,C5]
 refine wpAnyH_ready (rs:=[0,2]) (by kernel_rfl) (by simp) ?_
 refine J3 rfl (fun K hK=>?_) (J3 rfl (fun K hK=>?_) J4)
 rw[if_pos (by kernel_rfl)]
 have x0:=HL.out _ (J5 HB0.out hB);go_simp;clear x0;refine hK.out _ _ hS (fun _=>?_);clear hK K
 try simp only[Act.put,A7,C4,C5]
 refine tk9 (i:=3) (v:=?v4) rfl (Or.inl ⟨by rfl,?hy4⟩) hS ?rest4
 case hy4=>(intro w hSw;go_simp;try with_reducible rfl)
 try simp only[Act.put,A7,C4,C5]
 refine wpAnyH_ready (rs:=[2]) (by kernel_rfl) (by simp) ?_
 refine J3 rfl (fun K hK=>?_) J4
 rw[if_pos (by kernel_rfl)]
 go_simp;refine(CC.out _ hB).mono ?_;rintro E wC ⟨u',v',rfl,hon,hbC⟩
 try dsimp only
 obtain⟨A1,c1,hA1,_⟩:=hon.1.elim fun d h=>h.at_.form;obtain⟨A2,c2,hA2,_⟩:=hon.2.elim fun d h=>h.at_.form;change u'=.slice A1 t.ks.length c1 at hA1;change v'=.slice A2 t.cs.length c2 at hA2;subst hA1 hA2;have HON:=J1 (hon.mono17 (T':=fun k=>w.heap.size≤k) fun k hk=>D5 (J5 HB0.out hB).size hk);replace hS:=hS.below hbC hS.lt;replace hB:=J5 hB hbC;replace HZ:=J1 (HZ.out.below hbC HZ.out.lt);clear hon hbC;refine hK.out _ _ hS (fun _=>?_);clear hK K
 try simp only[Act.put,A7,C4,C5]
 obtain⟨W,hW⟩:∃W,W=wC:=⟨_,rfl⟩;rw[←hW]at hS hB HON HZ ⊢;clear hW
 rotate_left
 rw[if_pos (by kernel_rfl)]
 go_simp;refine(CC.out _ hB).mono ?_;rintro E wC ⟨u',v',rfl,hon,hbC⟩
 try dsimp only
 obtain⟨A1,c1,hA1,_⟩:=hon.1.elim fun d h=>h.at_.form;obtain⟨A2,c2,hA2,_⟩:=hon.2.elim fun d h=>h.at_.form;change u'=.slice A1 t.ks.length c1 at hA1;change v'=.slice A2 t.cs.length c2 at hA2;subst hA1 hA2;have HON:=J1 (hon.mono17 (T':=fun k=>w.heap.size≤k) fun k hk=>D5 (J5 HB0.out hB).size hk);replace hS:=hS.below hbC hS.lt;replace hB:=J5 hB hbC;replace HZ:=J1 (HZ.out.below hbC HZ.out.lt);clear hon hbC;refine hK.out _ _ hS (fun _=>?_);clear hK K
 try simp only[Act.put,A7,C4,C5]
 refine wpAnyH_ready (rs:=[0]) (by kernel_rfl) (by simp) ?_
 refine J3 rfl (fun K hK=>?_) J4
 rw[if_pos (by kernel_rfl)]
 have x0:=HL.out _ (J5 HB0.out hB);go_simp;clear x0;refine hK.out _ _ hS (fun _=>?_);clear hK K
 try simp only[Act.put,A7,C4,C5]
 refine tk9 (i:=3) (v:=?v5) rfl (Or.inl ⟨by rfl,?hy5⟩) hS ?rest5
 case hy5=>(intro w hSw;go_simp;try with_reducible rfl)
 try simp only[Act.put,A7,C4,C5]
 obtain⟨W,hW⟩:∃W,W=wC:=⟨_,rfl⟩;rw[←hW]at hS hB HON HZ ⊢;clear hW
 rotate_left
 all_goals
  have hownW:=J1 (show W.ownsRow base 26 5 (.slice A n c) n (trCells M) from by rw[HN.out];exact Q9 HROW.out.own (T2 (J5 HB0.out hB)) (fun k hk=>(HROW.out.own.lt k hk).2))
  refine wpAnyH_ready (rs:=[5]) (by kernel_rfl) (by simp) ?_
  refine J3 rfl (fun K hK=>?_) J4
  rw[if_pos (by kernel_rfl)]
  refine A2I W _ _ 23 rfl base 26 i0 (.agg #[z9,z9,(),(),false]) 5 72 Tryz.underlying23 hi hz0 hz1 hz2 rfl (by decide) (.slice A n c) n (trCells M) rfl hownW.out ⟨g7,0,none⟩ 1 1 [z9,z9,(),(),false] rfl rfl (fun j u hj=>by rw[S5];exact HZ.out.cell hj) (fun u hu=>by simp at hu;rcases hu with rfl | rfl | rfl | rfl | rfl <;> rfl) (by unfold maxLen;omega) (by omega) (by have h1:=HBOX.out;have h2:=(J5 HB0.out hB).size;omega) ?_
  intro v8 W8 hown8 hgrow hwhere
  obtain⟨g,c8,rfl⟩:∃g c8,v8=.slice (some ⟨g,0,none⟩) (n+1) c8:=by
   rcases hown8.2 with⟨_,h0⟩ | ⟨g,cap,cur,h,_⟩
   ·omega
   ·exact⟨g,cap,h⟩
  obtain⟨ad8,had⟩:∃ad8:Addr,ad8=⟨g,0,none⟩:=⟨_,rfl⟩;have HAD:=J1 had
  have hgw:(g<w.heap.size∧g≠lb∧O g)∨W.heap.size≤g:=by
   rcases hwhere with e | ⟨g',e,hge⟩
   ·have h1:=HOWN.out g e.symm;exact .inl ⟨(HLOW.out g h1.1).2,h1.2,h1.1⟩
   ·cases e;exact .inr hge
  have hWs:=(J5 HB0.out hB).size;have hW0s:w.heap.size<W.heap.size:=hS.lt
  replace hS:Lies W8 w.heap.size 26 [t.k,t.t,.slice tA t.ks.length tC,.slice sA t.cs.length sC,t.h]:=(hgrow.block _ hS.lt (fun e=>by have h1:=HOWN.out _ e.symm;have h2:=(HLOW.out _ h1.1).2;omega)).trans hS
  have hlb:Lies W8 lb 23 [.slice A n c]:=by
   have h1:=HLL.out W (J5 HB0.out hB);rw[←HN.out]at h1;exact(hgrow.block _ h1.lt (fun e=>(HOWN.out _ e.symm).2 rfl)).trans h1
  have hr8:RowLies W8 g 26 (trCells M++[.int .i64 0,.int .i64 0,.slice none 0 0,.slice none 0 0,.bool false]):=(RowLies.own hown8 hown8.1).1;have hlen:(trCells M++([.int .i64 0,.int .i64 0,.slice none 0 0,.slice none 0 0,.bool false]:List Value)).length=(n+1)*5:=hown8.1;have HO8:=J1 hown8;have HG8:=J1 hgrow;have HW8:=J1 hwhere;have HLB:=J1 hlb;have HR8:=J1 hr8;have HGW:=J1 hgw;have HSS:=J1 (J0 hWs hW0s);have HLEN:=J1 hlen;have HBW:=J1 (J5 HB0.out hB);rw[←had];refine hK.out _ _ hS (fun _=>?_);clear hK K had hown8 hgrow hwhere hgw hWs hW0s hlb hr8 hlen hB hownW HZ
  try simp only[Act.put,A7]
  have i1:(0:Int)≤(n:Int):=by omega
  have i2:(n:Int)<((n+1:Nat):Int):=by omega
  refine tk9 (i:=6) (v:=.pointer (some (ad8.add (n*5)))) rfl (Or.inl ⟨by rfl,?_⟩) hS ?_
  ·(intro w hSw;go_simp;first | with_reducible rfl | (intro h;exfalso;omega))
  try simp only[Act.put]
  have HPT:=J1 (show Value.pointer (some (ad8.add (n*5)))=.pointer (some ⟨g,n*5,none⟩) from by rw[HAD.out,S5])
  refine wpAnyH_ready (rs:=[7,8]) (by kernel_rfl) (by simp) ?_
  refine J3 rfl (fun K hK=>?_) (J3 rfl (fun K hK=>?_) J4)
  ·rw[if_pos (by kernel_rfl)]
   refine wp_store_mid 26 _ _ rfl g (n*5) #[t.k,t.t,.slice A1 t.ks.length c1,.slice A2 t.cs.length c2,t.h] HPT.out rfl (A1l HR8.out (by rw[HLEN.out];show n*5+5≤(n+1)*5;omega)) (by kernel_rfl) (by rw[←G0];rfl) ?_
   rw[L6];obtain⟨W9,hW9⟩:∃W9,W9=setCells W8 g (n*5) [t.k,t.t,.slice A1 t.ks.length c1,.slice A2 t.cs.length c2,t.h]:=⟨_,rfl⟩;rw[←hW9];have hk9:Keeps (fun k=>k≠g) W8 W9:=A02 hW9
   have ho9:W9.ownsRow base 26 5 (.slice (some ⟨g,0,none⟩) (n+1) c8) (n+1) (setMany (trCells M++[.int .i64 0,.int .i64 0,.slice none 0 0,.slice none 0 0,.bool false]) (n*5) [t.k,t.t,.slice A1 t.ks.length c1,.slice A2 t.cs.length c2,t.h]):=by rw[hW9];exact A2f _ _ HO8.out
   have hlb9:Lies W9 lb 23 [.slice A n c]:=HLB.out.keeps hk9 (fun e=>by rcases HGW.out with h | h;exact h.2.1 e.symm;have:=HBOX.out.1;have:=HSS.out.1;omega)
   replace hS:Lies W9 w.heap.size 26 [t.k,t.t,.slice tA t.ks.length tC,.slice sA t.cs.length sC,t.h]:=hS.keeps hk9 (fun e=>by rcases HGW.out with h | h;omega;have:=HSS.out.2;omega)
   refine hK.out _ _ hS (fun _=>?_);clear hK K hW9
   try simp only[Act.put]
   refine wpAnyH_ready (rs:=[8]) (by kernel_rfl) (by simp) ?_
   refine J3 rfl (fun K hK=>?_) J4
   rw[if_pos (by kernel_rfl)]
   have y0:=hlb9.c 0 rfl;have yf:=hlb9.free 0;go_simp;obtain⟨W10,hW10⟩:∃W10,W10=W9.setCell ⟨lb,0,none⟩ (.slice (some ad8) (n+1) c8):=⟨_,rfl⟩;rw[←hW10]
   have hk10:Keeps (fun k=>k≠lb) W9 W10:=by rw[hW10];exact(Keeps.refl _ _).setCell _ (.inl fun h=>h rfl)
   have hl10:Lies W10 lb 23 [.slice (some ad8) (n+1) c8]:=by rw[hW10];exact hlb9.set 0 _
   have HRES:=J1 (show ∃O',Kept base lb (L++[t]) O' W10∧Keeps (fun k=>¬O k) w W10∧∀k,O' k→O k∨w.heap.size≤k from by
    have hn:=HN.out;subst hn;have had:=HAD.out;subst had
    exact Kept.more HLOW.out HBOX.out HMM.out HROW.out HOWN.out HBW.out HON.out HO8.out HG8.out HW8.out (Q9 ho9 hk10 (fun k e=>by have e2:some g=some k:=e;cases e2;rcases HGW.out with h | h;exact h.2.1;have:=HBOX.out.1;have:=HSS.out.1;omega)) hl10 ⟨hk10.os.trans hk9.os,hk10.tape.trans hk9.tape,hk10.output.trans hk9.output,D5 hk9.size hk10.size,fun k hk h=>(hk10.same k (C9 hk hk9.size) h.2).trans (hk9.same k hk h.1)⟩)
   replace hS:Lies W10 w.heap.size 26 [t.k,t.t,.slice tA t.ks.length tC,.slice sA t.cs.length sC,t.h]:=hS.keeps hk10 (fun e=>by have:=HBOX.out.1;omega)
   refine hK.out _ _ hS (fun _=>?_);clear hK K hW10 y0 yf hk9 ho9 hlb9 hk10 hl10 hS i1 i2
   try simp only[Act.put,A7,C4,C5]
   refine wpAnyH_done (by kernel_rfl) ?_ _
   go_wp2_with fail
   first | go_end0 | (refine bodyPost_ret (results_none rfl _ _ _) rfl ?_)
   exact⟨⟨_,rfl⟩,HRES.out⟩
  ·rw[if_pos (by kernel_rfl)]
   have y0:=HLB.out.c 0 rfl;have yf:=HLB.out.free 0;go_simp;obtain⟨W9,hW9⟩:∃W9,W9=W8.setCell ⟨lb,0,none⟩ (.slice (some ad8) (n+1) c8):=⟨_,rfl⟩;rw[←hW9]
   have hk9:Keeps (fun k=>k≠lb) W8 W9:=by rw[hW9];exact(Keeps.refl _ _).setCell _ (.inl fun h=>h rfl)
   have hl9:Lies W9 lb 23 [.slice (some ad8) (n+1) c8]:=by rw[hW9];exact HLB.out.set 0 _
   have hglb:g≠lb:=by rcases HGW.out with h | h;exact h.2.1;have:=HBOX.out.1;have:=HSS.out.1;omega
   have hr9:RowLies W9 g 26 (trCells M++[.int .i64 0,.int .i64 0,.slice none 0 0,.slice none 0 0,.bool false]):=HR8.out.block (hk9.same g HR8.out.lt hglb)
   have ho9:W9.ownsRow base 26 5 (.slice (some ⟨g,0,none⟩) (n+1) c8) (n+1) (trCells M++[.int .i64 0,.int .i64 0,.slice none 0 0,.slice none 0 0,.bool false]):=Q9 HO8.out hk9 (fun k e=>by cases e;exact hglb)
   replace hS:Lies W9 w.heap.size 26 [t.k,t.t,.slice tA t.ks.length tC,.slice sA t.cs.length sC,t.h]:=hS.keeps hk9 (fun e=>by have:=HBOX.out.1;omega)
   refine hK.out _ _ hS (fun _=>?_);clear hK K hW9 y0 yf
   try simp only[Act.put,A7,C4,C5]
   refine wpAnyH_ready (rs:=[7]) (by kernel_rfl) (by simp) ?_
   refine J3 rfl (fun K hK=>?_) J4
   rw[if_pos (by kernel_rfl)]
   refine wp_store_mid 26 _ _ rfl g (n*5) #[t.k,t.t,.slice A1 t.ks.length c1,.slice A2 t.cs.length c2,t.h] HPT.out rfl (A1l hr9 (by rw[HLEN.out];show n*5+5≤(n+1)*5;omega)) (by kernel_rfl) (by rw[←G0];rfl) ?_
   rw[L6];obtain⟨W10,hW10⟩:∃W10,W10=setCells W9 g (n*5) [t.k,t.t,.slice A1 t.ks.length c1,.slice A2 t.cs.length c2,t.h]:=⟨_,rfl⟩;rw[←hW10];have hk10:Keeps (fun k=>k≠g) W9 W10:=A02 hW10
   have HRES:=J1 (show ∃O',Kept base lb (L++[t]) O' W10∧Keeps (fun k=>¬O k) w W10∧∀k,O' k→O k∨w.heap.size≤k from by
    have hn:=HN.out;subst hn;have had:=HAD.out;subst had
    exact Kept.more HLOW.out HBOX.out HMM.out HROW.out HOWN.out HBW.out HON.out HO8.out HG8.out HW8.out (by rw[hW10];exact A2f _ _ ho9) (hl9.keeps hk10 (fun e=>hglb e.symm)) ⟨hk10.os.trans hk9.os,hk10.tape.trans hk9.tape,hk10.output.trans hk9.output,D5 hk9.size hk10.size,fun k hk h=>(hk10.same k (C9 hk hk9.size) h.1).trans (hk9.same k hk h.2)⟩)
   replace hS:Lies W10 w.heap.size 26 [t.k,t.t,.slice tA t.ks.length tC,.slice sA t.cs.length sC,t.h]:=hS.keeps hk10 (fun e=>by rcases HGW.out with h | h;omega;have:=HSS.out.2;omega)
   refine hK.out _ _ hS (fun _=>?_);clear hK K hW10 hk9 ho9 hl9 hr9 hk10 hS i1 i2 hglb
   try simp only[Act.put,A7]
   refine wpAnyH_done (by kernel_rfl) ?_ _
   go_wp2_with fail
   first | go_end0 | (refine bodyPost_ret (results_none rfl _ _ _) rfl ?_)
   exact⟨⟨_,rfl⟩,HRES.out⟩
theorem A43 (N base lb:Nat) (hN:N≤1000):Hand N 5000 (fun _=>False) (Kept base lb) 31 #[.pointer (some ⟨lb,0,none⟩)] :=
 Kept.hand_of N 5000 base lb fun L O w t u v hK ht hs hl=>A44 N base lb hN L (by omega) O w t u v hK ht hs
theorem A3t (a:Tr) (uA:Option Addr) (uN uC:Nat) (pA:Option Addr) (pN pC:Nat) (w:World) (ht:TrHang w (a,.slice uA uN uC,.slice pA pN pC)) (hsz:Tr.size a≤1000) (hC:Chgs w) (hW:Want w) :
  Calls Tryz.prog 8 #[.agg #[a.k,a.t,.slice uA uN uC,.slice pA pN pC,a.h]] w (WaysIs a w):=A8x A43 a uA uN uC pA pN pC w ht hsz hC hW
end Go.Proofs.YtbddhkgbpjhhaaaGreatDoor
