/-
  LAID TOGETHER, BY PROGRAM, of: Psn, Trn, Trw, Trx, Try, Trp, Trl, Trlp, Trlt, Trlc, Trap, Trwk, Trwl, Trt, TrCame.
-/
import Derived.Test.YtbddhkgbpjhhaaaGreatDoorGIter
import Derived.Test.YtbddhkgbpjhhaaaGreatDoorGOwn
import Derived.Test.YtbddhkgbpjhhaaaGreatDoorGCame
import Derived.Test.YtbddhkgbpjhhaaaGreatDoorGTreeA
import Derived.Test.YtbddhkgbpjhhaaaGreatDoorGBase
import Derived.Laws.AppendOwnNone
import Derived.Lib.BufferMore
import Derived.Laws.EntriesVeiled
import Derived.Deep.RegionWith
import Derived.Deep.Cut
import Derived.Deep.CutRange
set_option maxHeartbeats 3200000
set_option maxRecDepth 100000
namespace Go.Proofs.YtbddhkgbpjhhaaaGreatDoor
open Go.RowKit Go.Sort
theorem PdCell.at_block {w w':World} {X:Addr} {f:Pf} {u:Value} (h:PdCell w X f u) (hb:w'.heap[X.block]?=w.heap[X.block]?):PdCell w' X f u :=
 have k:∀n,w'.cell? ⟨X.block,n,none⟩=w.cell? ⟨X.block,n,none⟩:=fun n=>World.cell?_of_block (a:=⟨X.block,n,none⟩) hb
 ⟨(World.cell?_of_block hb).trans h.c0,(k _).trans h.c1,(k _).trans h.c2,(k _).trans h.c3,(k _).trans h.c4,(k _).trans h.c5,(k _).trans h.c6,(k _).trans h.c7,(k _).trans h.c8,(k _).trans h.c9,(k _).trans h.c10,(k _).trans h.c11,(k _).trans h.c12,(k _).trans h.c13⟩
def PsOn (T:Nat→Prop):Nat→World→Value→List Pd→Prop
 | 0,_,v,l=>l=[]∧∃A c,v=.slice A 0 c
 | d+1,w,v,l=>∃A c,v=.slice A l.length c∧l.length≤9223372036854775807∧∀(j:Nat) (p:Pd),l[j]?=some p→∃b o s u,A=some ⟨b,o,s⟩∧T b∧b<w.heap.size∧PdCell w ((⟨b,o,s⟩:Addr).add (j*14)) p.f u∧PsOn T d w u p.ps
theorem PsOn.at_ {T:Nat→Prop} {d:Nat}:∀{w:World} {v:Value} {l:List Pd},PsOn T d w v l→PsAt d w v l:=by
 induction d with
 | zero=>intro w v l h;exact h
 | succ d ih =>
  intro w v l h;obtain⟨A,c,hv,hc,hx⟩:=h;refine⟨A,c,hv,hc,fun j p hj=>?_⟩;obtain⟨b,o,s,u,hA,_,hlt,hcell,hp⟩:=hx j p hj;exact⟨b,o,s,u,hA,hlt,hcell,ih hp⟩
theorem PsAt.on {T:Nat→Prop} {d:Nat}:∀{w:World} {v:Value} {l:List Pd},PsAt d w v l→(∀k,k<w.heap.size→T k)→PsOn T d w v l:=by
 induction d with
 | zero=>intro w v l h _;exact h
 | succ d ih =>
  intro w v l h ht;obtain⟨A,c,hv,hc,hx⟩:=h;refine⟨A,c,hv,hc,fun j p hj=>?_⟩;obtain⟨b,o,s,u,hA,hlt,hcell,hp⟩:=hx j p hj;exact⟨b,o,s,u,hA,ht b hlt,hlt,hcell,ih hp ht⟩
theorem PsOn.keep {T T':Nat→Prop} {d:Nat} {w w':World} (hs:w.heap.size≤w'.heap.size) (hb:∀k,T k→k<w.heap.size→w'.heap[k]?=w.heap[k]?∧T' k):∀{v:Value} {l:List Pd},PsOn T d w v l→PsOn T' d w' v l:=by
 induction d with
 | zero=>intro v l h;exact h
 | succ d ih =>
  intro v l h;obtain⟨A,c,hv,hc,hx⟩:=h;refine⟨A,c,hv,hc,fun j p hj=>?_⟩;obtain⟨b,o,s,u,hA,ht,hlt,hcell,hp⟩:=hx j p hj;obtain⟨h1,h2⟩:=hb b ht hlt
  exact⟨b,o,s,u,hA,h2,C9 hlt hs,hcell.at_block (by rw[L7];exact h1),ih hp⟩
theorem PsOn.more {T:Nat→Prop} {d:Nat}:∀{w:World} {v:Value} {l:List Pd},PsOn T d w v l→PsOn T (d+1) w v l:=by
 induction d with
 | zero =>
  intro w v l h;obtain⟨rfl,A,c,rfl⟩:=h
  exact⟨A,c,rfl,by simp,fun j a hj=>by simp at hj⟩
 | succ d ih =>
  intro w v l h;obtain⟨A,c,hv,hc,hx⟩:=h;refine⟨A,c,hv,hc,fun j a hj=>?_⟩;obtain⟨b,o,s,u,hA,ht,hlt,hcell,hp⟩:=hx j a hj;exact⟨b,o,s,u,hA,ht,hlt,hcell,ih hp⟩
theorem PsOn.mono {T:Nat→Prop} {d e:Nat} {w:World} {v:Value} {l:List Pd} (h:PsOn T d w v l) (hd:d≤e):PsOn T e w v l:=by
 induction hd with
 | refl=>exact h
 | step _ ih=>exact ih.more
def setMany:List Value→Nat→List Value→List Value
 | cs,_,[]=>cs
 | cs,o,x::r=>setMany (cs.set o x) (o+1) r
def setCells (W:World) (g:Nat):Nat→List Value→World
 | _,[]=>W
 | o,x::r=>setCells (W.setCell ⟨g,o,none⟩ x) g (o+1) r
theorem A0p (xs:List Value):∀(cs:List Value) (o:Nat),(setMany cs o xs).length=cs.length:=by
 induction xs with
 | nil=>intro cs o;rfl
 | cons x r ih=>intro cs o;rw[setMany,ih,List.length_set]
theorem A0u (xs:List Value):∀(cs:List Value) (o k:Nat),(k<o∨o+xs.length≤k)→(setMany cs o xs)[k]?=cs[k]?:=by
 induction xs with
 | nil=>intro cs o k _;rfl
 | cons x r ih =>
  intro cs o k h;rw[G5]at h
  rw[setMany,ih _ _ _ (by omega),List.getElem?_set_ne (by omega)]
theorem A0O (xs:List Value):∀(cs:List Value) (o i:Nat),i<xs.length→o+xs.length≤cs.length→(setMany cs o xs)[o+i]?=xs[i]?:=by
 induction xs with
 | nil=>intro cs o i h;simp at h
 | cons x r ih =>
  intro cs o i h hl;rw[G5]at h hl;rw[setMany]
  cases i with
  | zero =>
   show(setMany (cs.set o x) (o+1) r)[o]?=some x
   rw[A0u _ _ _ _ (.inl (by omega)),List.getElem?_set_self (by omega)]
  | succ i=>rw[show o+(i+1)=o+1+i by omega,ih _ _ _ (by omega) (by rw[List.length_set];omega)];rfl
theorem Lies.sets {g:Nat} {T:TypeId} (xs:List Value):∀{W:World} {cs:List Value} (o:Nat),Lies W g T cs→Lies (setCells W g o xs) g T (setMany cs o xs):=by
 induction xs with
 | nil=>intro W cs o h;exact h
 | cons x r ih=>intro W cs o h;exact ih (o+1) (h.set o x)
theorem N0 (g:Nat) (xs:List Value):∀(W:World) (o:Nat),(setCells W g o xs).heap.size=W.heap.size:=by
 induction xs with
 | nil=>intro W o;rfl
 | cons x r ih=>intro W o;rw[setCells,ih];simp[World.setCell]
theorem M6 (g k:Nat) (hk:k≠g) (xs:List Value):∀(W:World) (o:Nat),(setCells W g o xs).heap[k]?=W.heap[k]?:=by
 induction xs with
 | nil=>intro W o;rfl
 | cons x r ih=>intro W o;rw[setCells,ih];exact Below.heap_setCell _ _ _ _ hk
theorem Below.sets {B g:Nat} (hg:B≤g) (xs:List Value):∀{w W:World} (o:Nat),Below B w W→Below B w (setCells W g o xs):=by
 induction xs with
 | nil=>intro w W o h;exact h
 | cons x r ih=>intro w W o h;exact ih (o+1) (h.setCell hg x)
theorem PsIn.on {lo d:Nat}:∀{w:World} {v:Value} {l:List Pd},PsIn lo d w v l→PsOn (fun k=>lo≤k) d w v l:=by
 induction d with
 | zero=>intro w v l h;exact h
 | succ d ih =>
  intro w v l h;obtain⟨A,c,hv,hc,hx⟩:=h;refine⟨A,c,hv,hc,fun j p hj=>?_⟩;obtain⟨b,o,s,u,hA,hlo,hlt,hcell,hp⟩:=hx j p hj;exact⟨b,o,s,u,hA,hlo,hlt,hcell,ih hp⟩
theorem N8 (b:Addr) (m i:Nat) (h:0<i):b.add (m+i)=⟨(b.add m).block,(b.add m).off+i,none⟩:=by
 unfold Addr.add
 rw[if_neg (by omega)]
 split
 ·next h0=>subst h0;simp
 ·simp;omega
theorem R5 (L:List (Pd × Value)):(pdCells L).length=L.length*14:=by
 induction L with
 | nil=>rfl
 | cons x r ih =>
  have e:pdCells (x::r)=x.1.f.cells x.2++pdCells r:=rfl;rw[e,C6,ih,A0L,G5];omega
theorem A2H {α β:Type} {l:List α} {Q:Nat→α→β→Prop} (h:∀(j:Nat) (a:α),l[j]?=some a→∃x,Q j a x):∃L:List (α × β),L.map (·.1)=l∧∀(j:Nat) (x:α × β),L[j]?=some x→Q j x.1 x.2:=by
 obtain⟨L,hl,hL⟩:=A1K (α:=α × β) (Q:=fun j x=>l[j]?=some x.1∧Q j x.1 x.2) l.length (fun i hi=>by
  obtain⟨x,hx⟩:=h i _ (A8 hi);exact⟨(l[i],x),A8 hi,hx⟩)
 refine⟨L,List.ext_getElem? fun j=>?_,fun j x hj=>(hL j x hj).2⟩;rw[F5]
 cases hj:L[j]? with
 | none =>
  rw[List.getElem?_eq_none_iff]at hj
  exact(List.getElem?_eq_none_iff.2 (by omega)).symm
 | some x=>exact(hL j x hj).1.symm
theorem PsAt.rows {d:Nat} {w:World} {A:Option Addr} {n c:Nat} {l:List Pd} (h:PsAt (d+1) w (.slice A n c) l) :
  ∃L:List (Pd × Value),L.map (·.1)=l∧∀(j:Nat) (x:Pd × Value),L[j]?=some x→∃b o s,A=some ⟨b,o,s⟩∧b<w.heap.size∧PdCell w ((⟨b,o,s⟩:Addr).add (j*14)) x.1.f x.2∧PsAt d w x.2 x.1.ps:=by
 obtain⟨A',c',hv,_,hx⟩:=h;cases hv
 exact A2H (Q:=fun j (p:Pd) u=>∃b o s,A=some ⟨b,o,s⟩∧b<w.heap.size∧PdCell w ((⟨b,o,s⟩:Addr).add (j*14)) p.f u∧PsAt d w u p.ps) fun j p hj=>by
  obtain⟨b,o,s,u,h1,h2,h3,h4⟩:=hx j p hj;exact⟨u,b,o,s,h1,h2,h3,h4⟩
theorem A3d {w:World} {b:Addr} {L:List (Pd × Value)} (h:∀(j:Nat) (x:Pd × Value),L[j]?=some x→PdCell w (b.add (j*14)) x.1.f x.2):∀(k:Nat) (u:Value),(pdCells L)[k]?=some u→w.cell? (b.add k)=some u:=by
 intro k u hk;have hlt:=(D8.1 hk).1;rw[R5]at hlt
 have hj:k / 14<L.length:=by omega
 obtain⟨x,hx⟩:∃x,L[k / 14]?=some x:=⟨_,A8 hj⟩
 have hi:k % 14<14:=Nat.mod_lt _ (by decide)
 have hke:k=k / 14*14+k % 14:=by omega
 rw[hke,X4 L _ _ x hx hi]at hk;obtain⟨c0,c1,c2,c3,c4,c5,c6,c7,c8,c9,c10,c11,c12,c13⟩:=h _ x hx;rw[hke];generalize k % 14=i at hk hi ⊢
 match i,hi with
 | 0,_=>cases hk;exact c0
 | 1,_=>cases hk;rw[N8 _ _ _ (by decide)];exact c1
 | 2,_=>cases hk;rw[N8 _ _ _ (by decide)];exact c2
 | 3,_=>cases hk;rw[N8 _ _ _ (by decide)];exact c3
 | 4,_=>cases hk;rw[N8 _ _ _ (by decide)];exact c4
 | 5,_=>cases hk;rw[N8 _ _ _ (by decide)];exact c5
 | 6,_=>cases hk;rw[N8 _ _ _ (by decide)];exact c6
 | 7,_=>cases hk;rw[N8 _ _ _ (by decide)];exact c7
 | 8,_=>cases hk;rw[N8 _ _ _ (by decide)];exact c8
 | 9,_=>cases hk;rw[N8 _ _ _ (by decide)];exact c9
 | 10,_=>cases hk;rw[N8 _ _ _ (by decide)];exact c10
 | 11,_=>cases hk;rw[N8 _ _ _ (by decide)];exact c11
 | 12,_=>cases hk;rw[N8 _ _ _ (by decide)];exact c12
 | 13,_=>cases hk;rw[N8 _ _ _ (by decide)];exact c13
def RowLies (w:World) (g:Nat) (T:TypeId) (xs:List Value):Prop:=∃cs,Lies w g T cs∧xs.length≤cs.length∧∀(k:Nat) (u:Value),xs[k]?=some u→cs[k]?=some u
theorem RowLies.cell {w:World} {g:Nat} {T:TypeId} {xs:List Value} (h:RowLies w g T xs) {k:Nat} {u:Value} (hk:xs[k]?=some u):w.cell? ⟨g,k,none⟩=some u:=by
 obtain⟨cs,hl,_,hx⟩:=h;exact hl.cell (hx k u hk)
theorem RowLies.free {w:World} {g:Nat} {T:TypeId} {xs:List Value} (h:RowLies w g T xs) (k:Nat):w.frozen? ⟨g,k,none⟩=false:=by
 obtain⟨cs,hl,_,_⟩:=h;exact hl.free k
theorem RowLies.lt {w:World} {g:Nat} {T:TypeId} {xs:List Value} (h:RowLies w g T xs):g<w.heap.size:=by
 obtain⟨cs,hl,_,_⟩:=h;exact hl.lt
theorem RowLies.block {w w':World} {g:Nat} {T:TypeId} {xs:List Value} (h:RowLies w g T xs) (hb:w'.heap[g]?=w.heap[g]?):RowLies w' g T xs:=by
 obtain⟨cs,hl,h1,h2⟩:=h;exact⟨cs,hb.trans hl,h1,h2⟩
theorem RowLies.sets {w:World} {g:Nat} {T:TypeId} {xs ys zs:List Value} {o:Nat} (h:RowLies w g T xs) (hl:zs.length=xs.length) (ho:o+ys.length≤xs.length) (h1:∀k,(k<o∨o+ys.length≤k)→zs[k]?=xs[k]?) (h2:∀i,i<ys.length→zs[o+i]?=ys[i]?) :
  RowLies (setCells w g o ys) g T zs:=by
 obtain⟨cs,hc,hlen,hx⟩:=h
 refine⟨setMany cs o ys,hc.sets ys o,by rw[A0p];omega,fun k u hk=>?_⟩
 by_cases hko:k<o∨o+ys.length≤k
 ·rw[A0u _ _ _ _ hko];exact hx k u ((h1 k hko).symm.trans hk)
 ·obtain⟨i,rfl⟩:∃i,k=o+i:=⟨k-o,by omega⟩
  rw[A0O _ _ _ _ (by omega) (by omega),←h2 i (by omega)]
  exact hk
theorem RowLies.own {w:World} {base g n c size:Nat} {T:TypeId} {xs:List Value} (h:w.ownsRow base T size (.slice (some ⟨g,0,none⟩) n c) n xs) (hlen:xs.length=n*size):RowLies w g T xs∧base≤g∧n≤c:=by
 rcases h.2 with⟨hv,_⟩ | ⟨g',cap,cur,hv,hb,hg,hnc,hrest⟩
 ·cases hv
 ·cases hv;have hc:=h.cells (g:=g) rfl
  refine⟨⟨cur.toList,by show w.heap[g]?=_;rw[hg,Array.toArray_toList],?_,fun k u hk=>?_⟩,hb,hnc⟩
  ·by_cases hz:xs.length≤cur.size
   ·simpa using hz
   ·exfalso
    have hlast:xs[xs.length-1]?=some (xs[xs.length-1]'(by omega)):=A8 _
    have hc2:=hc _ _ hlast;rw[Z7]at hc2;unfold World.cell? at hc2
    rw[show w.heap[g]?=_ from hg]at hc2
    have:=(D9.1 (show cur[xs.length-1]?=_ from by simpa using hc2)).1
    omega
  ·have hc2:=hc k u hk;rw[Z7]at hc2;unfold World.cell? at hc2
   rw[show w.heap[g]?=_ from hg]at hc2
   simpa using hc2
theorem A3Z {L:List (Pd × Value)} {q:Nat} {y:Pd × Value} (hq:q<L.length):(pdCells (L.set q y)).length=(pdCells L).length∧(∀k,(k<q*14∨q*14+14≤k)→(pdCells (L.set q y))[k]?=(pdCells L)[k]?)∧∀i,i<14→(pdCells (L.set q y))[q*14+i]?=(y.1.f.cells y.2)[i]?:=by
 have hlen:(pdCells (L.set q y)).length=(pdCells L).length:=by rw[R5,R5,List.length_set]
 refine⟨hlen,fun k hk=>?_,fun i hi=>?_⟩
 ·by_cases hkl:k<(pdCells L).length
  ·rw[R5]at hkl
   have hj:k / 14<L.length:=by omega
   have hjq:q≠k / 14:=by omega
   have hke:k=k / 14*14+k % 14:=by omega
   obtain⟨x,hx⟩:∃x,L[k / 14]?=some x:=⟨_,A8 hj⟩
   have hx2:(L.set q y)[k / 14]?=some x:=by rw[List.getElem?_set_ne hjq];exact hx
   rw[hke,X4 (L.set q y) _ _ _ hx2 (Nat.mod_lt _ (by decide)),X4 L _ _ _ hx (Nat.mod_lt _ (by decide))]
  ·rw[E6 (by omega),E6 (by omega)]
 ·exact X4 (L.set q y) _ _ _ (List.getElem?_set_self hq) hi
theorem RowLies.pd {w:World} {g:Nat} {T:TypeId} {M:List (Pd × Value)} (h:RowLies w g T (pdCells M)) {j:Nat} {x:Pd × Value} (hx:M[j]?=some x):PdCell w ⟨g,j*14,none⟩ x.1.f x.2 :=
 have k:∀i u,i<14→(x.1.f.cells x.2)[i]?=some u→w.cell? ⟨g,j*14+i,none⟩=some u:=fun i u hi hu=>h.cell (by rw[X4 M _ _ x hx hi];exact hu)
 ⟨k 0 _ (by decide) rfl,k 1 _ (by decide) rfl,k 2 _ (by decide) rfl,k 3 _ (by decide) rfl,k 4 _ (by decide) rfl,k 5 _ (by decide) rfl,k 6 _ (by decide) rfl,k 7 _ (by decide) rfl,k 8 _ (by decide) rfl,k 9 _ (by decide) rfl,k 10 _ (by decide) rfl,k 11 _ (by decide) rfl,k 12 _ (by decide) rfl,k 13 _ (by decide) rfl⟩
theorem A5t (c:Nat) (w:World):Calls Tryz.prog 96 #[.slice none 0 c] w fun e w'=>e=.returned (.slice none 0 0)∧w=w':=by
 have hnil:=fun(W:World)=>Lib.run_eql_slice_nil_nil (P:=Tryz.prog) W 0 c Tryz.underlying24;go_enter Tryz.func96,Tryz.ntmps96;go_wp2_with (fail);go_ret;exact⟨rfl,rfl⟩
theorem A1E (b:Addr) (n c:Nat) (xs:List Value) (w:World) (hl:xs.length=n*14) (hx:∀k u,xs[k]?=some u→w.cell? (b.add k)=some u) (h1:∀u∈xs,u.oneCell'=true) (hn:n≤1000000) :
  Calls Tryz.prog 96 #[.slice (some b) n c] w fun e w'=>∃A c',e=.returned (.slice A n c')∧n≤c'∧Below w w w'∧(n=0∨∃g,A=some ⟨g,0,none⟩∧w.heap.size≤g∧RowLies w' g 57 xs):=by
 obtain⟨i0,hi,hz0,hz1,hz2⟩:=info_parts Tryz.infoPred;have hsome:=fun(W:World)=>Lib.run_eql_slice_some_nil (P:=Tryz.prog) W b n c Tryz.underlying24;obtain⟨W0,hW0⟩:∃W0,W0=w.alloc (Obj.cells #[] 57):=⟨_,rfl⟩
 have hb0:Below w w W0:=by rw[hW0];exact J6 _ _
 have hcell:=J1 (show ∀k u,xs[k]?=some u→W0.cell? (b.add k)=some u from fun k u hk=>(World.cell?_of_block (hb0.block _ (block_lt_of_cell (hx k u hk)))).trans (hx k u hk))
 have hown:Hid (W0.ownsRow w.heap.size 57 14 (.slice (some ⟨w.heap.size,0,none⟩) 0 0) 0 []):=J1 (by rw[hW0];exact World.ownsRow_made w #[] 0 (C3 _) (by decide) rfl)
 have HW:=J1 hW0;have HL:=J1 hl;have H1:=J1 h1;clear hW0 hx hl h1;go_enter Tryz.func96,Tryz.ntmps96
 go_wp2_with (first
  | (at_builtin;rw[←HW.out];refine wpList_append_own _ rfl _ _ 24 rfl w.heap.size 57 i0 (.agg #[z9,z9,z9,z9,z9,z9,false,z9,z9,z9,z9,false,z9,()]) 14 128 Tryz.underlying24 hi hz0 hz1 hz2 rfl (by decide) _ 0 [] rfl hown.out b n c xs rfl HL.out hcell.out H1.out (by unfold maxLen;omega) (by omega) hb0.size ?_))
 intro v' w' hown' hgrow _;have hb2:Below w w w':=hb0.grown hgrow hb0.size (fun q hq=>(hown.out.lt q hq).1)
 have hown2:w'.ownsRow w.heap.size 57 14 v' n xs:=by simpa using hown'
 have hres:∃A c',v'=.slice A n c'∧n≤c'∧(n=0∨∃g,A=some ⟨g,0,none⟩∧w.heap.size≤g∧RowLies w' g 57 xs):=by
  rcases id hown2.2 with⟨hv,hn0⟩ | ⟨g,cap,cur,rfl,hbg,hg,hnc,_⟩
  ·exact⟨none,0,by rw[hn0];exact hv,by omega,.inl hn0⟩
  ·obtain⟨r1,r2,r3⟩:=RowLies.own hown2 HL.out;exact⟨_,cap,rfl,r3,.inr ⟨g,rfl,r2,r1⟩⟩
 obtain⟨A,c',rfl,hnc,hor⟩:=hres;have HR:=J1 hor;have HB:=J1 hb2;clear hown' hgrow hown hcell hown2 hor hb2;go_wp2_with (fail);go_ret;exact⟨A,c',rfl,hnc,HB.out,HR.out⟩
open Go.RowKit
theorem TrCell.at_block {w w':World} {X:Addr} {a:Tr} {u v:Value} (h:TrCell w X a u v) (hb:w'.heap[X.block]?=w.heap[X.block]?):TrCell w' X a u v :=
 have k:∀n,w'.cell? ⟨X.block,n,none⟩=w.cell? ⟨X.block,n,none⟩:=fun n=>World.cell?_of_block (a:=⟨X.block,n,none⟩) hb
 ⟨(World.cell?_of_block hb).trans h.c0,(k _).trans h.c1,(k _).trans h.c2,(k _).trans h.c3,(k _).trans h.c4⟩
def TsOn (T:Nat→Prop):Nat→World→Value→List Tr→Prop
 | 0,_,v,l=>l=[]∧∃A c,v=.slice A 0 c
 | d+1,w,v,l=>∃A c,v=.slice A l.length c∧(l.length≤9223372036854775807∧l.length≤c)∧∀(j:Nat) (a:Tr),l[j]?=some a→∃b o s x y,A=some ⟨b,o,s⟩∧T b∧b<w.heap.size∧TrCell w ((⟨b,o,s⟩:Addr).add (j*5)) a x y∧(∃e,PsOn T e w y a.cs)∧TsOn T d w x a.ks
theorem TsOn.at_ {T:Nat→Prop} {d:Nat}:∀{w:World} {v:Value} {l:List Tr},TsOn T d w v l→TsAt d w v l:=by
 induction d with
 | zero=>intro w v l h;exact h
 | succ d ih =>
  intro w v l h;obtain⟨A,c,hv,hc,hx⟩:=h;refine⟨A,c,hv,hc,fun j p hj=>?_⟩;obtain⟨b,o,s,x,y,hA,_,hlt,hcell,⟨e,hp⟩,hk⟩:=hx j p hj;exact⟨b,o,s,x,y,hA,hlt,hcell,⟨e,hp.at_⟩,ih hk⟩
theorem TsAt.on {T:Nat→Prop} {d:Nat}:∀{w:World} {v:Value} {l:List Tr},TsAt d w v l→(∀k,k<w.heap.size→T k)→TsOn T d w v l:=by
 induction d with
 | zero=>intro w v l h _;exact h
 | succ d ih =>
  intro w v l h ht;obtain⟨A,c,hv,hc,hx⟩:=h;refine⟨A,c,hv,hc,fun j p hj=>?_⟩;obtain⟨b,o,s,x,y,hA,hlt,hcell,⟨e,hp⟩,hk⟩:=hx j p hj;exact⟨b,o,s,x,y,hA,ht b hlt,hlt,hcell,⟨e,hp.on ht⟩,ih hk ht⟩
theorem TsOn.keep {T T':Nat→Prop} {d:Nat} {w w':World} (hs:w.heap.size≤w'.heap.size) (hb:∀k,T k→k<w.heap.size→w'.heap[k]?=w.heap[k]?∧T' k):∀{v:Value} {l:List Tr},TsOn T d w v l→TsOn T' d w' v l:=by
 induction d with
 | zero=>intro v l h;exact h
 | succ d ih =>
  intro v l h;obtain⟨A,c,hv,hc,hx⟩:=h;refine⟨A,c,hv,hc,fun j p hj=>?_⟩;obtain⟨b,o,s,x,y,hA,ht,hlt,hcell,⟨e,hp⟩,hk⟩:=hx j p hj;obtain⟨h1,h2⟩:=hb b ht hlt
  exact⟨b,o,s,x,y,hA,h2,C9 hlt hs,hcell.at_block (by rw[L7];exact h1),⟨e,hp.keep hs hb⟩,ih hk⟩
theorem TsOn.more {T:Nat→Prop} {d:Nat}:∀{w:World} {v:Value} {l:List Tr},TsOn T d w v l→TsOn T (d+1) w v l:=by
 induction d with
 | zero =>
  intro w v l h;obtain⟨rfl,A,c,rfl⟩:=h
  exact⟨A,c,rfl,by simp,fun j a hj=>by simp at hj⟩
 | succ d ih =>
  intro w v l h;obtain⟨A,c,hv,hc,hx⟩:=h;refine⟨A,c,hv,hc,fun j a hj=>?_⟩;obtain⟨b,o,s,x,y,hA,ht,hlt,hcell,hp,hk⟩:=hx j a hj;exact⟨b,o,s,x,y,hA,ht,hlt,hcell,hp,ih hk⟩
theorem TsOn.mono {T:Nat→Prop} {d e:Nat} {w:World} {v:Value} {l:List Tr} (h:TsOn T d w v l) (hd:d≤e):TsOn T e w v l:=by
 induction hd with
 | refl=>exact h
 | step _ ih=>exact ih.more
def TrOn (T:Nat→Prop) (w:World) (x:TrV):Prop:=(∃d,TsOn T d w x.2.1 x.1.ks)∧∃d,PsOn T d w x.2.2 x.1.cs
theorem TrOn.hang {T:Nat→Prop} {w:World} {x:TrV} (h:TrOn T w x):TrHang w x:=by
 obtain⟨⟨d,h1⟩,e,h2⟩:=h;exact⟨⟨d,h1.at_⟩,e,h2.at_⟩
theorem TrHang.on {T:Nat→Prop} {w:World} {x:TrV} (h:TrHang w x) (ht:∀k,k<w.heap.size→T k):TrOn T w x:=by
 obtain⟨⟨d,h1⟩,e,h2⟩:=h;exact⟨⟨d,h1.on ht⟩,e,h2.on ht⟩
theorem TrOn.keep {T T':Nat→Prop} {w w':World} {x:TrV} (h:TrOn T w x) (hs:w.heap.size≤w'.heap.size) (hb:∀k,T k→k<w.heap.size→w'.heap[k]?=w.heap[k]?∧T' k):TrOn T' w' x:=by
 obtain⟨⟨d,h1⟩,e,h2⟩:=h;exact⟨⟨d,h1.keep hs hb⟩,e,h2.keep hs hb⟩
abbrev trV (x:TrV):Value:=.agg #[x.1.k,x.1.t,x.2.1,x.2.2,x.1.h]
def kidAt (w:World) (u:Value) (j i:Nat):Value :=
 match u with
 | .slice (some A) _ _=>(w.cell? ⟨(A.add (j*5)).block,(A.add (j*5)).off+i,none⟩).getD undef
 | _=>undef
mutual
def Tr.flat (w:World):Tr→Value→Value→List TrV
 | .mk k t h cs ks,u,v=>Tr.flats w ks u 0++[(.mk k t h cs ks,u,v)]
def Tr.flats (w:World):List Tr→Value→Nat→List TrV
 | [],_,_=>[]
 | b::r,u,j=>Tr.flat w b (kidAt w u j 2) (kidAt w u j 3)++Tr.flats w r u (j+1)
end
theorem Tr.flat_at (w:World) (a:Tr) (u v:Value):Tr.flat w a u v=Tr.flats w a.ks u 0++[(a,u,v)]:=by cases a;rw[Tr.flat];rfl
theorem Tr.flats_snoc (w:World) (l:List Tr) (b:Tr) (u:Value):∀j,Tr.flats w (l++[b]) u j=Tr.flats w l u j++Tr.flat w b (kidAt w u (j+l.length) 2) (kidAt w u (j+l.length) 3):=by
 induction l with
 | nil=>intro j;rw[F1,Tr.flats,Tr.flats,Tr.flats,F3,F1];rfl
 | cons a r ih =>
  intro j
  rw[G8,Tr.flats,Tr.flats,ih,D4,G5,show j+1+r.length=j+(r.length+1) by omega]
theorem Tr.flats_take (w:World) {l:List Tr} {q:Nat} {b:Tr} (h:l[q]?=some b) (u:Value):Tr.flats w (l.take (q+1)) u 0=Tr.flats w (l.take q) u 0++Tr.flat w b (kidAt w u q 2) (kidAt w u q 3):=by
 have hq:q<l.length:=(D8.1 h).1;rw[D7,h]
 show Tr.flats w (l.take q++[b]) u 0=_
 rw[Tr.flats_snoc,E4,G6,Nat.min_eq_left (Nat.le_of_lt hq)]
theorem Tr.flats_split (w:World) {l:List Tr} {q:Nat} {b:Tr} (h:l[q]?=some b) (u:Value):∃r,Tr.flats w l u 0=Tr.flats w (l.take q) u 0++(Tr.flat w b (kidAt w u q 2) (kidAt w u q 3)++r):=by
 have key:∀(l:List Tr) (q j:Nat),∃r,Tr.flats w l u j=Tr.flats w (l.take q) u j++r:=by
  intro l
  induction l with
  | nil=>intro q j;exact⟨[],by simp[Tr.flats]⟩
  | cons a s ih =>
   intro q j
   cases q with
   | zero=>exact⟨_,by rw[F8,Tr.flats.eq_1,F1]⟩
   | succ q =>
    obtain⟨r,hr⟩:=ih q (j+1)
    exact⟨r,by rw[List.take_succ_cons,Tr.flats,Tr.flats,hr,D4]⟩
 obtain⟨r,hr⟩:=key l (q+1) 0
 exact⟨r,by rw[hr,Tr.flats_take w h,D4]⟩
theorem TsOn.one {T:Nat→Prop} {d:Nat} {w:World} {A:Option Addr} {c:Nat} {l:List Tr} {j:Nat} {a:Tr} (h:TsOn T d w (.slice A l.length c) l) (hj:l[j]?=some a) :
  ∃e b o s x y,e<d∧A=some ⟨b,o,s⟩∧T b∧b<w.heap.size∧x=kidAt w (.slice A l.length c) j 2∧y=kidAt w (.slice A l.length c) j 3∧TrCell w ((⟨b,o,s⟩:Addr).add (j*5)) a x y∧(∃e,PsOn T e w y a.cs)∧TsOn T e w x a.ks:=by
 cases d with
 | zero=>obtain⟨rfl,_⟩:=h;simp at hj
 | succ d =>
  obtain⟨A',c',hv,_,hx⟩:=h;cases hv;obtain⟨b,o,s,x,y,rfl,ht,hlt,hcell,hp,hk⟩:=hx j a hj;refine⟨d,b,o,s,x,y,Nat.lt_succ_self d,rfl,ht,hlt,?_,?_,hcell,hp,hk⟩
  ·have:=hcell.c2;simp only[kidAt];rw[this];rfl
  ·have:=hcell.c3;simp only[kidAt];rw[this];rfl
theorem Tr.flat_fst (w:World) (a:Tr):∀u v,(Tr.flat w a u v).map (·.1)=Tr.all a:=by
 refine Tr.ind (P:=fun a=>∀u v,(Tr.flat w a u v).map (·.1)=Tr.all a) (fun a ih=>?_) a;intro u v;rw[Tr.flat_at,Tr.all_at,List.map_append]
 have key:∀(l:List Tr),(∀b∈l,∀u v,(Tr.flat w b u v).map (·.1)=Tr.all b)→∀j,(Tr.flats w l u j).map (·.1)=Tr.alls l:=by
  intro l
  induction l with
  | nil=>intro _ j;rw[Tr.flats,Tr.alls];rfl
  | cons b r ih2 =>
   intro hl j;rw[Tr.flats,Tr.alls,List.map_append,hl b E9,ih2 fun c hc=>hl c (F7 _ hc)]
 rw[key a.ks ih]
 rfl
theorem Tr.flat_on {T:Nat→Prop} (w:World) (a:Tr):∀u v,TrOn T w (a,u,v)→∀x∈Tr.flat w a u v,TrOn T w x:=by
 refine Tr.ind (P:=fun a=>∀u v,TrOn T w (a,u,v)→∀x∈Tr.flat w a u v,TrOn T w x) (fun a ih=>?_) a;intro u v h x hx;rw[Tr.flat_at,G3,G4]at hx
 rcases hx with hx | rfl
 ·obtain⟨⟨d,hu⟩,_⟩:=h;obtain⟨A,c,hA,_⟩:=hu.at_.form;change u=.slice A a.ks.length c at hA;subst hA
  have key:∀(q:Nat),q≤a.ks.length→∀x∈Tr.flats w (a.ks.take q) (.slice A a.ks.length c) 0,TrOn T w x:=by
   intro q
   induction q with
   | zero=>intro _ x hx;rw[F8,Tr.flats]at hx;simp at hx
   | succ q ihq =>
    intro hq x hx
    have hb:a.ks[q]?=some (a.ks[q]'(by omega)):=A8 _
    rw[Tr.flats_take w hb,G3]at hx
    rcases hx with hx | hx
    ·exact ihq (by omega) x hx
    ·obtain⟨e,_,_,_,_,_,_,_,_,_,hx2,hy2,_,hp,hk⟩:=hu.one hb;rw[←hx2,←hy2]at hx;exact ih _ (List.getElem_mem _) _ _ ⟨⟨e,hk⟩,hp⟩ x hx
  exact key a.ks.length (C3 _) x (by rw[List.take_length];exact hx)
 ·exact h
open Go.RowKit Go.Shelf
attribute [local go_sem] Oper.semAt_some
structure TourEnv (T:Nat→Prop) (W0:World) (l G Y:Nat) (O:Nat→Prop) (W:World):Prop where
 size:W0.heap.size≤W.heap.size
 same:∀k,T k→k<W0.heap.size→W.heap[k]?=W0.heap[k]?
 no:∀k,T k→¬O k
 g:W.cell? ⟨G,0,none⟩=some (.func (.func 119) #[] #[.pointer (some ⟨G,0,none⟩),.pointer (some ⟨Y,0,none⟩)])
 y:W.cell? ⟨Y,0,none⟩=some (.func (.yield l) #[] #[])
 ng:¬O G
 ny:¬O Y
theorem TourEnv.chg {T:Nat→Prop} {W0 W W':World} {l G Y:Nat} {O O':Nat→Prop} (h:TourEnv T W0 l G Y O W) (hT:∀k,T k→k<W0.heap.size) (hc:Chg O W O' W'):TourEnv T W0 l G Y O' W':=by
 have hG:=block_lt_of_cell h.g;have hY:=block_lt_of_cell h.y;refine⟨D5 h.size hc.keeps.size,fun k hk hlt=>?_,fun k hk ho=>?_,hc.keeps.cell h.ng h.g,hc.keeps.cell h.ny h.y,fun ho=>h.ng (hc.own _ hG ho),fun ho=>h.ny (hc.own _ hY ho)⟩
 ·exact(hc.keeps.same k (C9 hlt h.size) (h.no k hk)).trans (h.same k hk hlt)
 ·exact h.no k hk (hc.own k (C9 (hT k hk) h.size) ho)
theorem Chg.alloc (O:Nat→Prop) (W:World) (o:Obj):Chg O W O (W.alloc o):=⟨Keeps.alloc _ W o,fun _ _ h=>h⟩
theorem A7O (T:Nat→Prop) (W0:World) (hT:∀k,T k→k<W0.heap.size) (m l G Y:Nat) (J Jx:List TrV→(Nat→Prop)→World→Prop) (xs:List TrV)
  (hJ:StableS (fun _=>True) J) (hO:∀pre O' W',J pre O' W'→∀k,O' k→k<W'.heap.size∧¬T k)
  (hY:∀pre x O1 W1,J pre O1 W1→pre++[x] <+: xs→YieldAt Fence.wide m Tryz.prog l #[trV x] W1 fun e W' =>
   (e=.returned (.bool true)∧∃O',J (pre++[x]) O' W'∧Chg O1 W1 O' W')∨(e=.returned (.bool false)∧∃O',Jx (pre++[x]) O' W'∧Chg O1 W1 O' W'))
  (d:Nat):∀(a:Tr) (u v:Value) (W:World) (O:Nat→Prop) (pre:List TrV),TsOn T d W0 u a.ks→(∃e,PsOn T e W0 v a.cs)→TourEnv T W0 l G Y O W→J pre O W→pre++Tr.flat W0 a u v <+: xs →
  Calls Tryz.prog 119 #[.agg #[a.k,a.t,u,v,a.h],.pointer (some ⟨G,0,none⟩),.pointer (some ⟨Y,0,none⟩)] W fun e W' =>
   (e=.returned (.bool true)∧∃O',J (pre++Tr.flat W0 a u v) O' W'∧Chg O W O' W')∨(e=.returned (.bool false)∧∃p O',p <+: xs∧Jx p O' W'∧Chg O W O' W'):=by
 induction d using Nat.strongRecOn with
 | ind d ih =>
 intro a u v W O pre hu hv henv hj hpx;obtain⟨W1,hW1⟩:∃W1,W1=W.alloc (Obj.cells #[a.k,a.t,u,v,a.h] 26):=⟨_,rfl⟩;obtain⟨l0,p0,hb0⟩:=A0a (a:=a) (u:=u) (v:=v) hW1
 have hc0:Chg O W O W1:=by rw[hW1];exact Chg.alloc _ _ _
 have hob:¬O W.heap.size:=fun h=>Nat.lt_irrefl _ (hO _ _ _ hj _ h).1
 have hj1:J pre O W1:=hJ _ _ _ _ hj (by rw[hW1];exact Keeps.alloc _ _ _)
 have henv1:=henv.chg hT hc0;obtain⟨A,c,rfl,hl⟩:=hu.at_.form;obtain⟨A',c',rfl,hl'⟩:=hv.elim fun D h=>h.at_.form;have hsp:=fun(q:Nat) (b:Tr) (h:a.ks[q]?=some b)=>Tr.flats_split W0 h (.slice A a.ks.length c);have HFL:=J1 (Tr.flat_at W0 a (.slice A a.ks.length c) (.slice A' a.cs.length c'))
 have hsz1:W1.heap.size=W.heap.size+1:=by rw[hW1];simp
 obtain⟨n,hn⟩:∃n,n=a.ks.length:=⟨_,rfl⟩;have HN:=J1 hn;have HU:=J1 hu;have HV:=J1 hv;have HSP:=J1 hsp;have IH:=J1 ih;have HJ:=J1 hJ;have HO:=J1 hO;have HY:=J1 hY;have HT:=J1 hT;have HPX:=J1 hpx;have HE:=J1 henv1;have HJ1:=J1 hj1;have HC0:=J1 hc0;have HW:=J1 hW1;have HP0:=J1 p0;have HOB:=J1 hob;have HSZ:=J1 hsz1;rw[←hn]at hl;have h2:=p0.c2;have hlN:=J1 hl;clear hsp hu hv ih hJ hO hY hT hpx henv hj hW1 l0 hb0 hc0 hob hj1 henv1 p0 hsz1 hn;refine(callsIn_wide (n:=9)).1 ?_;refine callsIn_of_wp Tryz.func119 rfl trivial ?_ rfl;simp only[Tryz.ntmps119,List.size_toArray,G5,List.length_nil,Nat.reduceAdd,Nat.reduceSub,Array.replicate_succ,Array.replicate_zero,List.push_toArray,List.append_toArray,F1,G8]
 gi_wp2_with fail
 rw[←HW.out];rw[←HN.out]at HFL HU HSP HPX h2 ⊢
 gi_loopw [10] (fun i wr=>∃(q:Nat) (O':Nat→Prop),q≤n∧i=.int .i64 q∧J (pre++Tr.flats W0 (a.ks.take q) (.slice A n c) 0) O' wr∧Chg O W1 O' wr) (fun i _=>n-(intOf i).toNat)
 case atStart=>exact⟨0,O,E3 _,rfl,by rw[F8,Tr.flats,F3];exact HJ1.out,⟨Keeps.refl _ _,fun _ _ h=>h⟩⟩
 case round =>
  obtain⟨q,O1,hq,rfl,hj,hc⟩:=hrel;have hcw:Chg O W O1 wr:=HC0.out.trans hc;have henv:=HE.out.chg HT.out hc
  by_cases hlt:q<n
  ·obtain⟨b,gb⟩:∃b,a.ks[q]?=some b:=⟨a.ks[q]'(by have:=HN.out;omega),A8 _⟩
   have hu:=HU.out;rw[HN.out]at hu;obtain⟨e,bb,o,s,x,y,he,rfl,hTb,hlt0,hx,hy,hcell,hp,hk⟩:=hu.one gb
   have q1:=hcell.at_block (w':=wr) (by rw[L7];exact henv.same bb hTb hlt0)
   obtain⟨r,hr⟩:=HSP.out q b gb;rw[←HN.out]at hx hy;have Hx:=J1 hx;have Hy:=J1 hy;obtain⟨B1,d1,rfl,_⟩:=hk.at_.form;obtain⟨B2,d2,rfl,_⟩:=hp.elim fun D h=>h.at_.form;obtain⟨x0,x1,x2,x3,x4⟩:=q1;have hca:=Chg.alloc O1 wr (Obj.cells #[b.k,b.t,.slice B1 b.ks.length d1,.slice B2 b.cs.length d2,b.h] 26);have henv2:=henv.chg HT.out hca;have hj2:=HJ.out _ _ _ _ hj (Keeps.alloc _ wr (Obj.cells #[b.k,b.t,.slice B1 b.ks.length d1,.slice B2 b.cs.length d2,b.h] 26))
   have hpx2:(pre++Tr.flats W0 (a.ks.take q) (.slice (some ⟨bb,o,s⟩) n c) 0)++Tr.flat W0 b (.slice B1 b.ks.length d1) (.slice B2 b.cs.length d2) <+: xs:=by
    refine List.IsPrefix.trans ?_ HPX.out;rw[HFL.out,hr,Hx.out,Hy.out]
    exact⟨r++[(a,.slice (some ⟨bb,o,s⟩) n c,.slice A' a.cs.length c')],by simp⟩
   have cs:=IH.out e he b _ _ _ O1 _ hk hp henv2 hj2 hpx2;have hft:=Tr.flats_take W0 gb (.slice (some ⟨bb,o,s⟩) n c);rw[←Hx.out,←Hy.out]at hft;have HFT:=J1 hft;have HCW:=J1 (hc.trans hca);have hg:=henv2.g;have CS:=J1 cs;clear hx hy hu hj henv hcw henv2 hj2 hpx2 hcell hp hk hr hTb hlt0 gb he hft hc hca cs
   gi_wp2_with fail
   refine⟨trivial,(callsIn_wide.2 CS.out).mono ?_⟩
   rintro e w3 (⟨rfl,O3,hj3,hc3⟩ | ⟨rfl,p,O3,hp3,hj3,hc3⟩)
   ·have hc4:=HCW.out.trans hc3;rw[D4,←HFT.out]at hj3;clear hc3 hg x0 x1 x2 x3 x4
    gi_wp2_with fail
    go_roundw
    case rel=>exact⟨q+1,O3,by omega,by go_num,hj3,hc4⟩
    case measure=>simp[intOf];omega
   ·have hc4:=J1 (HCW.out.trans hc3);clear hc3 hg x0 x1 x2 x3 x4
    gi_wp2_with fail
    go_ret;exact .inr ⟨rfl,p,O3,hp3,hj3,HC0.out.trans hc4.out⟩
  ·obtain rfl:q=n:=by omega
   have ht:a.ks.take q=a.ks:=C7 (by have:=HN.out;omega)
   rw[ht]at hj
   have p1:TrCell wr ⟨W.heap.size,0,none⟩ a _ _:=HP0.out.at_block (hc.keeps.same _ (by rw[HSZ.out];exact Nat.lt_succ_self _) HOB.out)
   have hpx2:(pre++Tr.flats W0 a.ks (.slice A q c) 0)++[(a,.slice A q c,.slice A' a.cs.length c')] <+: xs:=by
    have:=HPX.out
    rwa[HFL.out,←D4]at this
   have hend:(pre++Tr.flats W0 a.ks (.slice A q c) 0)++[(a,.slice A q c,.slice A' a.cs.length c')]=pre++Tr.flat W0 a (.slice A q c) (.slice A' a.cs.length c'):=by rw[HFL.out,D4]
   have HEND:=J1 hend;have HPX2:=J1 hpx2;have HCW:=J1 hcw;obtain⟨fn,tmps,assign,body,hy,hR⟩:=HY.out _ _ _ _ hj hpx2;have HR:=J1 hR;obtain⟨x0,x1,x2,x3,x4⟩:=p1;simp only[G6]at x0 x1 x2 x3 x4;rw[←HN.out]at x2;have hyy:=henv.y;clear hR hj hc hcw henv hpx2 hend ht
   gi_wp2_with fail
   refine(A1z HR.out).mono ?_
   rintro e w3 (⟨rfl,O3,hj3,hc3⟩ | ⟨rfl,O3,hj3,hc3⟩)
   ·have HC:=J1 (HCW.out.trans hc3);rw[HEND.out,HN.out]at hj3;clear hc3 hy hyy x0 x1 x2 x3 x4
    gi_wp2_with fail
    go_ret;exact .inl ⟨rfl,O3,hj3,HC.out⟩
   ·have HC:=J1 (HCW.out.trans hc3);clear hc3 hy hyy x0 x1 x2 x3 x4
    gi_wp2_with fail
    go_ret;exact .inr ⟨rfl,_,O3,HPX2.out,hj3,HC.out⟩
theorem A1Y (a:Tr) (u v:Value) (w:World) (hu:∃A n c,u=.slice A n c) (hv:∃A n c,v=.slice A n c) :
  Calls Tryz.prog 95 #[.agg #[a.k,a.t,u,v,a.h]] w fun e w'=>e=.returned (.func (.func 118) #[] #[.pointer (some ⟨w.heap.size,0,none⟩)])∧w'=w.alloc (.cells #[a.k,a.t,u,v,a.h] 26):=by
 obtain⟨A,n,c,rfl⟩:=hu;obtain⟨A',n',c',rfl⟩:=hv;go_enter Tryz.func95,Tryz.ntmps95
 go_wp2
 go_ret;exact⟨rfl,rfl⟩
theorem A1h (m:Nat) (T:Nat→Prop) (W0:World) (hT:∀k,T k→k<W0.heap.size) (bx:Nat) (a:Tr) (u v:Value) (hon:TrOn T W0 (a,u,v)) :
  IterR Fence.wide (m+1) Tryz.prog 118 #[.pointer (some ⟨bx,0,none⟩)] (fun _ _ _ (x:TrV) vs=>vs=#[trV x]∧TrOn T W0 x) (fun k=>T k∨k=bx) (fun _ _=>True)
   (fun W=>TrCell W ⟨bx,0,none⟩ a u v∧W0.heap.size≤W.heap.size∧∀k,T k→k<W0.heap.size→W.heap[k]?=W0.heap[k]?) (Tr.flat W0 a u v):=by
 rintro l J Jx W O ⟨hcell,hsz,hsame⟩ hJ hJx hO hY h0;have hbx:=block_lt_of_cell hcell.c0;have hon':=Tr.flat_on W0 a u v hon;obtain⟨⟨d,hu⟩,hv⟩:=hon;obtain⟨A,c,hA,hl⟩:=hu.at_.form;obtain⟨A',c',hA',hl'⟩:=hv.elim fun D h=>h.at_.form;change u=.slice A a.ks.length c at hA;change v=.slice A' a.cs.length c' at hA';subst hA hA';obtain⟨w2,hw2⟩:∃w2,(W.alloc (.cells #[.func (.yield l) #[] #[]] 136)).alloc (.cells #[.func (.func 119) #[] #[.pointer (some ⟨W.heap.size+1,0,none⟩),.pointer (some ⟨W.heap.size,0,none⟩)]] 136)=w2:=⟨_,rfl⟩
 have hk2:∀S,Keeps S W w2:=fun S=>by rw[←hw2];exact(Keeps.alloc S W _).trans (Keeps.alloc S _ _)
 have hsz2:w2.heap.size=W.heap.size+2:=by rw[←hw2];simp
 have hnew:∀k,W.heap.size≤k→¬O k:=fun k hk h=>by have:=(hO _ _ _ h0 k h).1;omega
 have henv:TourEnv T W0 l (W.heap.size+1) W.heap.size O w2:=by
  refine⟨by omega,fun k hk hlt=>((hk2 (fun _=>True)).same k (by omega) trivial).trans (hsame k hk hlt),fun k hk ho=>(hO _ _ _ h0 k ho).2 (.inl hk),?_,?_,hnew _ (by omega),hnew _ (C3 _)⟩
  ·rw[←hw2];have:=(Boxed.new (W.alloc (.cells #[.func (.yield l) #[] #[]] 136)) 136 (.func (.func 119) #[] #[.pointer (some ⟨W.heap.size+1,0,none⟩),.pointer (some ⟨W.heap.size,0,none⟩)])).cell
   rwa[J2]at this
  ·rw[←hw2]
   exact(World.cell?_alloc_lt _ _ _ (by simp)).trans (Boxed.new W 136 (.func (.yield l) #[] #[])).cell
 have cs:=A7O T W0 hT m l (W.heap.size+1) W.heap.size J Jx (Tr.flat W0 a (.slice A a.ks.length c) (.slice A' a.cs.length c')) hJ (fun pre O' W' h k hk=>⟨(hO pre O' W' h k hk).1,fun ht=>(hO pre O' W' h k hk).2 (.inl ht)⟩)
  (fun pre x O1 W1 h hp=>hY pre x #[trV x] O1 W1 h hp ⟨rfl,hon' x (hp.subset (by simp))⟩) d a _ _ w2 O [] hu hv henv (hJ _ _ _ _ h0 (hk2 _)) (by rw[F1];exact⟨[],by simp⟩)
 have hcell2:TrCell w2 ⟨bx,0,none⟩ a (.slice A a.ks.length c) (.slice A' a.cs.length c'):=hcell.at_block ((hk2 (fun _=>True)).same bx hbx trivial);obtain⟨x0,x1,x2,x3,x4⟩:=hcell2;simp only[G6]at x0 x1 x2 x3 x4;have hg:=henv.g;have CS:=J1 cs;have HW2:=J1 hw2;clear hcell hsz hsame hJ hJx hO hY h0 hbx hu hv hl hl' hon' hk2 hsz2 hnew henv cs hT;refine callsIn_of_wp Tryz.func118 rfl trivial ?_ rfl;simp only[Tryz.ntmps118,List.size_toArray,G5,List.length_nil,Nat.reduceAdd,Nat.reduceSub,Array.replicate_succ,Array.replicate_zero,List.push_toArray,List.append_toArray,F1,G8];subst hw2
 gi_wp2_with fail
 refine⟨trivial,(callsIn_wide.2 CS.out).mono ?_⟩
 rintro e w3 (⟨rfl,O3,hj3,hc3⟩ | ⟨rfl,p,O3,hp3,hj3,hc3⟩)
 ·clear hg x0 x1 x2 x3 x4
  gi_wp2_with fail
  go_end0
  exact⟨⟨_,rfl⟩,.inl ⟨O3,by simpa using hj3⟩⟩
 ·clear hg x0 x1 x2 x3 x4
  gi_wp2_with fail
  go_end0
  exact⟨⟨_,rfl⟩,.inr ⟨p,O3,hp3,hj3⟩⟩
attribute [local go_sem] Oper.semAt_some
theorem A8B {w:World} {u:Value} {l:List Tr} (h:∃d,TsAt d w u l):∃A n c,u=.slice A n c:=by
 obtain⟨d,h⟩:=h;obtain⟨A,c,h,_⟩:=h.form;exact⟨A,_,c,h⟩
theorem A8C {w:World} {u:Value} {l:List Pd} (h:PsSome w u l):∃A n c,u=.slice A n c:=by
 obtain⟨d,h⟩:=h;obtain⟨A,c,h,_⟩:=h.form;exact⟨A,_,c,h⟩
theorem X0 (W:World) (D:Nat) (o:Obj) {B:Nat} (h:B≤D):Below B W (W.putObj D o) :=
 ⟨rfl,rfl,rfl,by simp,fun k hk=>World.putObj_heap_other (by omega)⟩
structure CountI (w:World) (T:TypeId) (val:List TrV→Value) (pre:List TrV) (O:Nat→Prop) (W:World):Prop where
 own:∀k,O k↔k=w.heap.size+1
 box:Boxed W (w.heap.size+1) T (val pre)
 below:Below w w W
theorem CountI.keep {w:World} {T:TypeId} {val:List TrV→Value} {pre:List TrV} {O:Nat→Prop} {W W':World} {S:Nat→Prop} (h:CountI w T val pre O W) (hk:Keeps (fun k=>O k∨S k) W W') (hS:∀k,k<w.heap.size→S k):CountI w T val pre O W' :=
 ⟨h.own,(hk.same _ h.box.lt (.inl ((h.own _).2 rfl))).trans h.box,h.below.trans (hk.below (D5 h.below.size (C3 _)) fun k hk=>.inr (hS k hk))⟩
theorem CountI.step {w:World} {T:TypeId} {val:List TrV→Value} {pre:List TrV} {x:TrV} {O:Nat→Prop} {W W1:World} (h:CountI w T val pre O W) (hb:Below W W W1) :
  CountI w T val (pre++[x]) O (W1.setCell ⟨w.heap.size+1,0,none⟩ (val (pre++[x])))∧Chg O W O (W1.setCell ⟨w.heap.size+1,0,none⟩ (val (pre++[x]))):=by
 have hlt:=h.box.lt;have hbx:Boxed W1 (w.heap.size+1) T (val pre):=(hb.block _ hlt).trans h.box
 refine⟨⟨h.own,hbx.set _,(h.below.trans ⟨hb.os,hb.tape,hb.output,hb.size,fun k hk=>hb.block k (by have:=h.below.size;omega)⟩).setCell (by show w.heap.size≤w.heap.size+1;omega) _⟩,⟨hb.os,hb.tape,hb.output,by simpa using hb.size,fun k hk hn=>?_⟩,fun _ _ h=>h⟩
 have hne:k≠w.heap.size+1:=fun e=>hn ((h.own k).2 e);exact(Below.heap_setCell W1 _ _ k hne).trans (hb.block k hk)
attribute [local go_sem] Oper.semAt_some
theorem CountI.drew {w:World} {T:TypeId} {val:List TrV→Value} {pre:List TrV} {O:Nat→Prop} {W:World} (h:CountI w T val pre O W):CountI w T val pre O W.drew:=⟨h.own,h.box,h.below.drew⟩
theorem Chg.drew {O O':Nat→Prop} {A B:World} (h:Chg O A O' B):Chg O A O' B.drew:=⟨⟨h.keeps.os,h.keeps.tape,h.keeps.output,h.keeps.size,h.keeps.same⟩,h.own⟩
theorem St.ofN_app (l:List Int) (i:Int):St.ofN (l++[i])=St.ofN l ||| St.ofN [i]:=by
 by_cases h:0≤i∧i≤63
 ·have h1:=St.ofN_snoc_in [] i h.1 h.2;rw[F1,St.ofN_nil,Nat.zero_or]at h1;rw[St.ofN_snoc_in l i h.1 h.2,h1]
 ·have h1:=St.ofN_snoc_out [] i h;rw[F1,St.ofN_nil]at h1;rw[St.ofN_snoc_out l i h,h1,Nat.or_zero]
def tabV (pre:List TrV):Value:=.int .u64 (St.ofN (leafTs (pre.map (·.1))):Nat)
theorem A20 (a:Tr) (u v:Value) (w:World) (hu:∃d,TsAt d w u a.ks) (hv:PsSome w v a.cs) (hsz:Tr.size a≤1000) :
  Calls Tryz.prog 55 #[.agg #[a.k,a.t,u,v,a.h]] w fun e w'=>e=.returned (.int .u64 (Tr.tables a:Nat))∧Below w w w':=by
 have hon:TrOn (fun k=>k<w.heap.size) w (a,u,v):=TrHang.on ⟨hu,hv⟩ (fun k h=>h);obtain⟨A,n,c,rfl⟩:=A8B hu;obtain⟨A',n',c',rfl⟩:=A8C hv;have cw:=fun W=>A1Y a (.slice A n c) (.slice A' n' c') W ⟨_,_,_,rfl⟩ ⟨_,_,_,rfl⟩
 have hlen:(Tr.flat w a (.slice A n c) (.slice A' n' c')).length=(Tr.all a).length:=by rw[←Tr.flat_fst w a (.slice A n c) (.slice A' n' c'),E0]
 have hle:=Tr.all_length_le a;have HS:=J1 hlen;have HON:=J1 hon
 have HL:=J1 (show(Tr.all a).length≤1000 by omega)
 clear hu hv hsz hle hlen hon;refine(callsIn_wide (n:=9)).1 ?_;refine callsIn_of_wp_marks Tryz.func55 rfl trivial ?_ rfl;simp only[Tryz.ntmps55,List.size_toArray,G5,List.length_nil,Nat.reduceAdd,Nat.reduceSub,Array.replicate_succ,Array.replicate_zero,List.push_toArray,List.append_toArray,F1,G8]
 gi_wp2_with fail
 refine⟨trivial,(callsIn_wide.2 (cw _)).mono ?_⟩;rintro e w' ⟨rfl,rfl⟩;clear cw
 gi_wp2_with fail
 obtain⟨w4,hw4⟩:∃w4,((w.alloc (Obj.cells #[a.k,a.t,.slice A n c,.slice A' n' c',a.h] 26)).alloc (Obj.cells #[.int .u64 0] 45)).alloc (Obj.cells #[a.k,a.t,.slice A n c,.slice A' n' c',a.h] 26)=w4:=⟨_,rfl⟩
 have hz:w4.heap.size=w.heap.size+3:=by rw[←hw4];simp
 have hb4:Below w w w4:=by rw[←hw4];exact(((Below.refl _ w).alloc (C3 _) _).alloc (by simp) _).alloc (by simp;omega) _
 have hbox:Boxed w4 (w.heap.size+1) 45 (tabV []):=by
  rw[←hw4];have:=(Boxed.new (w.alloc (Obj.cells #[a.k,a.t,.slice A n c,.slice A' n' c',a.h] 26)) 45 (.int .u64 0)).alloc (Obj.cells #[a.k,a.t,.slice A n c,.slice A' n' c',a.h] 26)
  rwa[J2]at this
 have htc:TrCell w4 ⟨w.heap.size+2,0,none⟩ a (.slice A n c) (.slice A' n' c'):=by
  have:=(A0a (w:=(w.alloc (Obj.cells #[a.k,a.t,.slice A n c,.slice A' n' c',a.h] 26)).alloc (Obj.cells #[.int .u64 0] 45)) (T:=26) (a:=a) (u:=.slice A n c) (v:=.slice A' n' c') rfl).2.1;rw[J2,J2]at this;rw[←hw4];exact this
 have hI0:CountI w 45 tabV [] (fun k=>k=w.heap.size+1) w4:=⟨fun _=>Iff.rfl,hbox,hb4⟩;rw[hw4];clear hw4 hbox
 refine A0o rfl (by omega) (gf:=118) (lb:=#[.pointer (some ⟨w.heap.size+2,0,none⟩)]) rfl trivial (enters_of Tryz.func118 (by kernel_rfl) rfl)
  (A1h 7 (fun k=>k<w.heap.size) w (fun k h=>h) (w.heap.size+2) a (.slice A n c) (.slice A' n' c') HON.out) ?hpre ?hC ?hps ?hR (CountI w 45 tabV) (fun _ _ _ _=>False) ?hI ?hIx ?hSD ?hIO (fun k=>k=w.heap.size+1) ?hO hI0
  (fun O W x _ a'=>∃Bx,w4.heap.size+2≤Bx∧Bx<W.heap.size∧¬O Bx∧TrCell W ⟨Bx,0,none⟩ x.1 x.2.1 x.2.2∧a'={ tmps:=#[.agg #[a.k,a.t,.slice A n c,.slice A' n' c',a.h],.pointer (some ⟨w.heap.size,0,none⟩),.int .u64 0,.pointer (some ⟨w.heap.size+1,0,none⟩),.pointer (some ⟨Bx,0,none⟩),.agg #[a.k,a.t,.slice A n c,.slice A' n' c',a.h],.func (.func 118) #[] #[.pointer (some ⟨w.heap.size+2,0,none⟩)],trV x,undef,undef,undef,undef,undef,undef,undef,undef,undef,undef],defers:=[] })
  (fun O W W' x _ a' hk ⟨Bx,h1,h2,h3,h4,h5⟩=>⟨Bx,h1,C9 h2 hk.size,h3,h4.at_block (hk.same Bx h2 (by omega)),h5⟩) ?assign ?body ?done ?stop
 case hpre=>exact fun W3 hb=>⟨htc.below hb (by show w.heap.size+2<w4.heap.size;omega),D5 hb4.size hb.size,fun k _ hk=>(hb.block k (by omega)).trans (hb4.block k hk)⟩
 case hC =>
  intro k hk
  rcases hk with hk | hk
  ·change k<w.heap.size at hk;omega
  ·omega
 case hps=>rintro B O W x vs ⟨rfl,_⟩;rfl
 case hR=>intro O O' W W' x vs _ _ _ h;exact h
 case hI=>intro pre O A B h hk;exact h.keep hk fun k hlt=>⟨trivial,by omega,by omega⟩
 case hIx=>intro c pre O A B h _;exact h
 case hSD=>intro k _;trivial
 case hIO =>
  intro pre O W h k hk;have e:=(h.own k).1 hk
  refine⟨by rw[e];exact h.box.lt,fun hc=>?_⟩
  rcases hc with hc | hc
  ·change k<w.heap.size at hc;omega
  ·omega
 case hO=>intro k hk;omega
 case assign =>
  rintro l2 ⟨x,xu,xv⟩ vs O W3 K hs hOl ⟨rfl,hx⟩ hK;obtain⟨⟨d1,hx1⟩,d2,hx2⟩:=hx;obtain⟨B1,e1,hB1,_⟩:=hx1.at_.form;obtain⟨B2,e2,hB2,_⟩:=hx2.at_.form;change xu=.slice B1 x.ks.length e1 at hB1;change xv=.slice B2 x.cs.length e2 at hB2;subst hB1 hB2
  rw[show(#[7]:Array Tmp).zip #[trV (x,.slice B1 x.ks.length e1,.slice B2 x.cs.length e2)]=#[(7,trV (x,.slice B1 x.ks.length e1,.slice B2 x.cs.length e2))] from by simp[List.zip_toArray]]
  have htb:=(A0a (w:=W3) (T:=26) (a:=x) (u:=.slice B1 x.ks.length e1) (v:=.slice B2 x.cs.length e2) rfl).2.1;have hnb:¬O W3.heap.size:=fun h=>Nat.lt_irrefl _ (hOl _ h);have HK:=J1 hK;clear hx1 hx2 hK
  gi_wp2
  exact HK.out _ _ (Keeps.alloc _ _ _) ⟨W3.heap.size,hs,by simp,hnb,htb,rfl⟩
 case body =>
  rintro l2 pre x vs O W3 a' hl2 h hpx hrx ⟨Bx,hB1,hB2,hB3,htr,rfl⟩;obtain⟨sv,hsv⟩:∃sv,sv=St.ofN (leafTs (pre.map (·.1))):=⟨_,rfl⟩
  have hc1:W3.cell? ⟨w.heap.size+1,0,none⟩=some (.int .u64 (sv:Nat)):=by rw[hsv];exact h.box.cell
  have hc2:=h.box.frozen;obtain⟨y0,y1,_,_,_⟩:=htr;simp only[G6]at y0 y1
  have hpx2:leafTs ((pre++[x]).map (·.1))=leafTs (pre.map (·.1))++(if x.1.k=0 then [x.1.t]else []):=by
   rw[List.map_append]
   by_cases hk:x.1.k=0 <;> simp[leafTs,hk]
  by_cases hk0:x.1.k=0
  ·have hb0:(x.1.k == 0)=true:=by simpa using hk0
   rw[if_pos hk0]at hpx2
   have hor:bits BinOp.or IntKind.u64 (sv:Int) ((St.ofN [x.1.t]:Nat):Int)=((sv ||| St.ofN [x.1.t]:Nat):Int):=u64_or_nat _ _ (by rw[hsv];exact St.ofN_lt _) (St.ofN_lt _)
   have hval:tabV (pre++[x])=.int .u64 (bits BinOp.or IntKind.u64 (sv:Int) ((St.ofN [x.1.t]:Nat):Int)):=by rw[hor,tabV,hpx2,hsv,St.ofN_app]
   have hst:=h.step (x:=x) ((Below.refl _ W3).alloc (C3 _) (Obj.cells #[x.1.t] 3));rw[hval]at hst;have HST:=J1 hst
   have cs:=A2A _ [x.1.t] _ (Sl.new W3 3 [x.1.t]) (by simp)
   have hc3:∀o,(W3.alloc o).cell? ⟨w.heap.size+1,0,none⟩=some (.int .u64 (sv:Nat)):=fun o=>(World.cell?_alloc_lt W3 _ _ h.box.lt).trans hc1;have hc4:∀o,(W3.drew.alloc o).cell? ⟨w.heap.size+1,0,none⟩=some (.int .u64 (sv:Nat)):=fun o=>hc3 o;have hf3:∀o,(W3.alloc o).frozen? ⟨w.heap.size+1,0,none⟩=false:=fun o=>(h.box.alloc o).frozen;have hf4:∀o,(W3.drew.alloc o).frozen? ⟨w.heap.size+1,0,none⟩=false:=fun o=>hf3 o;have CS:=J1 cs
   have csd:=A2A _ [x.1.t] _ (Sl.new W3.drew 3 [x.1.t]) (by simp)
   have CSD:=J1 csd;clear cs csd h hpx hrx hpx2 hk0 hval hor hst hsv
   have hmx:Tryz.prog.follows .mixedOrders=true:=by kernel_rfl
   gi_wp2
   gi_region_with_o (refine⟨trivial,?_⟩;gi_at_call 46;(first | refine(CallsIn.inRound l2 (callsIn_wide.2 CS.out)).mono ?_ | refine(CallsIn.inRound l2 (callsIn_wide.2 CSD.out)).mono ?_);rintro e w' ⟨rfl,rfl⟩)
   all_goals gi_wp2
   all_goals(first | exact⟨O,HST.out.1.drew,HST.out.2.drew⟩ | exact⟨O,HST.out.1,HST.out.2⟩)
  ·have hb0:(x.1.k == 0)=false:=by simpa using hk0
   rw[if_neg hk0,F3]at hpx2
   have hst:CountI w 45 tabV (pre++[x]) O W3:=⟨h.own,by rw[tabV,hpx2];exact h.box,h.below⟩
   have HST:=J1 hst;clear h hpx hrx hpx2 hk0 hst hsv
   gi_wp2
   exact⟨O,HST.out,⟨Keeps.refl _ _,fun _ _ h=>h⟩⟩
 case done =>
  intro D O W3 hD h hOD hK
  have hc1:W3.cell? ⟨w.heap.size+1,0,none⟩=some (.int .u64 (Tr.tables a:Nat)):=by
   have:=h.box.cell
   rwa[tabV,Tr.flat_fst]at this
  have hfin:=J1 (h.below.trans (X0 W3 D (.deferred none) (show w.heap.size≤D by omega)))
  clear h
  gi_wp2
  refine⟨by simp,.inl ⟨_,_,rfl,run_takeDeferred hK,?_⟩⟩
  exact⟨_,results_tmp (t:=2) rfl _ _ _,rfl,hfin.out⟩
 case stop=>rintro D c pre O W3 hD hpx h;exact h.elim
theorem M7 (L:List TrV):(trCells L).length=L.length*5:=by
 induction L with
 | nil=>rfl
 | cons x r ih =>
  have e:trCells (x::r)=x.1.cells x.2.1 x.2.2++trCells r:=rfl;rw[e,C6,ih,G5];simp[Tr.cells];omega
theorem TsAt.rows {d:Nat} {w:World} {A:Option Addr} {n c:Nat} {l:List Tr} (h:TsAt (d+1) w (.slice A n c) l) :
  ∃L:List TrV,L.map (·.1)=l∧∀(j:Nat) (x:TrV),L[j]?=some x→∃b o s,A=some ⟨b,o,s⟩∧b<w.heap.size∧TrCell w ((⟨b,o,s⟩:Addr).add (j*5)) x.1 x.2.1 x.2.2∧PsSome w x.2.2 x.1.cs∧TsAt d w x.2.1 x.1.ks:=by
 obtain⟨A',c',hv,_,hx⟩:=h;cases hv
 exact A2H (Q:=fun j (p:Tr) (y:Value × Value)=>∃b o s,A=some ⟨b,o,s⟩∧b<w.heap.size∧TrCell w ((⟨b,o,s⟩:Addr).add (j*5)) p y.1 y.2∧PsSome w y.2 p.cs∧TsAt d w y.1 p.ks) fun j p hj=>by
  obtain⟨b,o,s,x,y,h1,h2,h3,h4,h5⟩:=hx j p hj;exact⟨(x,y),b,o,s,h1,h2,h3,h4,h5⟩
theorem Y1 {w:World} {b:Addr} {L:List TrV} (h:∀(j:Nat) (x:TrV),L[j]?=some x→TrCell w (b.add (j*5)) x.1 x.2.1 x.2.2):∀(k:Nat) (u:Value),(trCells L)[k]?=some u→w.cell? (b.add k)=some u:=by
 intro k u hk;have hlt:=(D8.1 hk).1;rw[M7]at hlt
 have hj:k / 5<L.length:=by omega
 obtain⟨x,hx⟩:∃x,L[k / 5]?=some x:=⟨_,A8 hj⟩
 have hi:k % 5<5:=Nat.mod_lt _ (by decide)
 have hke:k=k / 5*5+k % 5:=by omega
 rw[hke,S6 hx hi]at hk;obtain⟨c0,c1,c2,c3,c4⟩:=h _ x hx;rw[hke];generalize k % 5=i at hk hi ⊢
 match i,hi with
 | 0,_=>cases hk;exact c0
 | 1,_=>cases hk;rw[N8 _ _ _ (by decide)];exact c1
 | 2,_=>cases hk;rw[N8 _ _ _ (by decide)];exact c2
 | 3,_=>cases hk;rw[N8 _ _ _ (by decide)];exact c3
 | 4,_=>cases hk;rw[N8 _ _ _ (by decide)];exact c4
theorem Y7 {L:List (TrV)} {q:Nat} {y:TrV} (hq:q<L.length):(trCells (L.set q y)).length=(trCells L).length∧(∀k,(k<q*5∨q*5+5≤k)→(trCells (L.set q y))[k]?=(trCells L)[k]?)∧∀i,i<5→(trCells (L.set q y))[q*5+i]?=(y.1.cells y.2.1 y.2.2)[i]?:=by
 have hlen:(trCells (L.set q y)).length=(trCells L).length:=by rw[M7,M7,List.length_set]
 refine⟨hlen,fun k hk=>?_,fun i hi=>?_⟩
 ·by_cases hkl:k<(trCells L).length
  ·rw[M7]at hkl
   have hj:k / 5<L.length:=by omega
   have hjq:q≠k / 5:=by omega
   have hke:k=k / 5*5+k % 5:=by omega
   obtain⟨x,hx⟩:∃x,L[k / 5]?=some x:=⟨_,A8 hj⟩
   have hx2:(L.set q y)[k / 5]?=some x:=by rw[List.getElem?_set_ne hjq];exact hx
   rw[hke,S6 hx2 (Nat.mod_lt _ (by decide)),S6 hx (Nat.mod_lt _ (by decide))]
  ·rw[E6 (by omega),E6 (by omega)]
 ·exact S6 (List.getElem?_set_self hq) hi
theorem RowLies.tr {w:World} {g:Nat} {T:TypeId} {M:List TrV} (h:RowLies w g T (trCells M)) {j:Nat} {x:TrV} (hx:M[j]?=some x):TrCell w ⟨g,j*5,none⟩ x.1 x.2.1 x.2.2 :=
 have k:∀i u,i<5→(x.1.cells x.2.1 x.2.2)[i]?=some u→w.cell? ⟨g,j*5+i,none⟩=some u:=fun i u hi hu=>h.cell (by rw[S6 hx hi];exact hu)
 ⟨k 0 _ (by decide) rfl,k 1 _ (by decide) rfl,k 2 _ (by decide) rfl,k 3 _ (by decide) rfl,k 4 _ (by decide) rfl⟩
theorem A11 (c:Nat) (w:World):Calls Tryz.prog 54 #[.slice none 0 c] w fun e w'=>e=.returned (.slice none 0 0)∧w=w':=by
 have hnil:=fun(W:World)=>Lib.run_eql_slice_nil_nil (P:=Tryz.prog) W 0 c Tryz.underlying23;go_enter Tryz.func54,Tryz.ntmps54;go_wp2_with (fail);go_ret;exact⟨rfl,rfl⟩
theorem X7 (b:Addr) (n c:Nat) (xs:List Value) (w:World) (hl:xs.length=n*5) (hx:∀k u,xs[k]?=some u→w.cell? (b.add k)=some u) (h1:∀u∈xs,u.oneCell'=true) (hn:n≤1000000) :
  Calls Tryz.prog 54 #[.slice (some b) n c] w fun e w'=>∃A c',e=.returned (.slice A n c')∧n≤c'∧Below w w w'∧(n=0∨∃g,A=some ⟨g,0,none⟩∧w.heap.size≤g∧RowLies w' g 26 xs):=by
 obtain⟨i0,hi,hz0,hz1,hz2⟩:=info_parts Tryz.infoTree;have hsome:=fun(W:World)=>Lib.run_eql_slice_some_nil (P:=Tryz.prog) W b n c Tryz.underlying23;obtain⟨W0,hW0⟩:∃W0,W0=w.alloc (Obj.cells #[] 26):=⟨_,rfl⟩
 have hb0:Below w w W0:=by rw[hW0];exact J6 _ _
 have hcell:=J1 (show ∀k u,xs[k]?=some u→W0.cell? (b.add k)=some u from fun k u hk=>(World.cell?_of_block (hb0.block _ (block_lt_of_cell (hx k u hk)))).trans (hx k u hk))
 have hown:Hid (W0.ownsRow w.heap.size 26 5 (.slice (some ⟨w.heap.size,0,none⟩) 0 0) 0 []):=J1 (by rw[hW0];exact World.ownsRow_made w #[] 0 (C3 _) (by decide) rfl)
 have HW:=J1 hW0;have HL:=J1 hl;have H1:=J1 h1;clear hW0 hx hl h1;go_enter Tryz.func54,Tryz.ntmps54
 go_wp2_with (first
  | (at_builtin;rw[←HW.out];refine wpList_append_own _ rfl _ _ 23 rfl w.heap.size 26 i0 (.agg #[z9,z9,(),(),false]) 5 72 Tryz.underlying23 hi hz0 hz1 hz2 rfl (by decide) _ 0 [] rfl hown.out b n c xs rfl HL.out hcell.out H1.out (by unfold maxLen;omega) (by omega) hb0.size ?_))
 intro v' w' hown' hgrow _;have hb2:Below w w w':=hb0.grown hgrow hb0.size (fun q hq=>(hown.out.lt q hq).1)
 have hown2:w'.ownsRow w.heap.size 26 5 v' n xs:=by simpa using hown'
 have hres:∃A c',v'=.slice A n c'∧n≤c'∧(n=0∨∃g,A=some ⟨g,0,none⟩∧w.heap.size≤g∧RowLies w' g 26 xs):=by
  rcases id hown2.2 with⟨hv,hn0⟩ | ⟨g,cap,cur,rfl,hbg,hg,hnc,_⟩
  ·exact⟨none,0,by rw[hn0];exact hv,by omega,.inl hn0⟩
  ·obtain⟨r1,r2,r3⟩:=RowLies.own hown2 HL.out;exact⟨_,cap,rfl,r3,.inr ⟨g,rfl,r2,r1⟩⟩
 obtain⟨A,c',rfl,hnc,hor⟩:=hres;have HR:=J1 hor;have HB:=J1 hb2;clear hown' hgrow hown hcell hown2 hor hb2;go_wp2_with (fail);go_ret;exact⟨A,c',rfl,hnc,HB.out,HR.out⟩
def TsTop (lo d:Nat) (w:World) (v:Value) (l:List Tr):Prop :=
 ∃(M:List TrV) (A:Option Addr) (c:Nat),M.map (·.1)=l∧v=.slice A l.length c∧(l.length≤9223372036854775807∧l.length≤c) ∧
  (l=[]∨∃g e,d=e+1∧A=some ⟨g,0,none⟩∧lo≤g∧RowLies w g 26 (trCells M)∧∀(j:Nat) (x:TrV),M[j]?=some x→(∃D,PsOn (fun k=>g<k) D w x.2.2 x.1.cs)∧TsOn (fun k=>g<k) e w x.2.1 x.1.ks)
theorem TsTop.nil (lo d:Nat) (w:World) (A:Option Addr) (c:Nat):TsTop lo d w (.slice A 0 c) []:=⟨[],A,c,rfl,rfl,by simp,.inl rfl⟩
theorem TsTop.on {lo d:Nat} {w:World} {v:Value} {l:List Tr} (h:TsTop lo d w v l):TsOn (fun k=>lo≤k) d w v l:=by
 obtain⟨M,A,c,hM,rfl,hl,h⟩:=h
 rcases h with rfl | ⟨g,e,rfl,rfl,hlo,hrow,hx⟩
 ·exact TsOn.mono (d:=0) ⟨rfl,A,c,rfl⟩ (E3 _)
 ·refine⟨_,c,rfl,hl,fun j a ha=>?_⟩;rw[←hM,F5]at ha;obtain⟨x,hj,rfl⟩:=Option.map_eq_some_iff.1 ha;obtain⟨⟨D,h1⟩,h2⟩:=hx j x hj
  have hk:∀k,g<k→k<w.heap.size→w.heap[k]?=w.heap[k]?∧lo≤k:=fun k hk _=>⟨rfl,by omega⟩
  exact⟨g,0,none,_,_,rfl,hlo,hrow.lt,by rw[S5];exact hrow.tr hj,⟨D,h1.keep (C3 _) hk⟩,h2.keep (C3 _) hk⟩
theorem TsTop.keep {lo lo' d:Nat} {w w':World} {v:Value} {l:List Tr} (h:TsTop lo d w v l) (hs:w.heap.size≤w'.heap.size) (hb:∀k,lo≤k→k<w.heap.size→w'.heap[k]?=w.heap[k]?∧lo'≤k):TsTop lo' d w' v l:=by
 obtain⟨M,A,c,hM,rfl,hl,h⟩:=h;refine⟨M,A,c,hM,rfl,hl,?_⟩
 rcases h with rfl | ⟨g,e,rfl,rfl,hlo,hrow,hx⟩
 ·exact .inl rfl
 ·obtain⟨hg1,hg2⟩:=hb g hlo hrow.lt
  have hk:∀k,g<k→k<w.heap.size→w'.heap[k]?=w.heap[k]?∧g<k:=fun k hk hlt=>⟨(hb k (by omega) hlt).1,hk⟩
  exact .inr ⟨g,e,rfl,rfl,hg2,hrow.block hg1,fun j x hj=>⟨(hx j x hj).1.elim fun D h=>⟨D,h.keep hs hk⟩,(hx j x hj).2.keep hs hk⟩⟩
def Apart (u:Value) (k:Nat):Prop:=∀g n c,u=.slice (some ⟨g,0,none⟩) n c→0<n→k≠g
def NewTr (d:Nat) (w:World) (a:Tr) (e:Ending) (w':World):Prop:=∃u v,e=.returned (.agg #[a.k,a.t,u,v,a.h])∧TsTop w.heap.size d w' u a.ks∧(∃D,PsOn (fun k=>w.heap.size≤k∧Apart u k) D w' v a.cs)∧Below w w w'
theorem TsTop.apart {lo d:Nat} {w:World} {v:Value} {l:List Tr} (h:TsTop lo d w v l) {k:Nat} (hk:w.heap.size≤k):Apart v k:=by
 obtain⟨M,A,c,hM,rfl,hl,h⟩:=h;intro g n c hv hn;cases hv
 rcases h with rfl | ⟨g',e,rfl,hA,hlo,hrow,hx⟩
 ·simp at hn
 ·cases hA;have:=hrow.lt;omega
theorem A5s (d:Nat) (u:Value) (l:List Pd) (w:World) (hu:PsAt d w u l) (hsz:Pr.sizes l≤1000) :
  Calls Tryz.prog 57 #[u,.func (.func 58) #[] #[]] w fun e w'=>∃r,e=.returned r∧PsOn (fun k=>w.heap.size≤k) d w' r l∧Below w w w':=by
 obtain⟨A,c,rfl,hl⟩:=hu.form
 by_cases hn0:l=[]
 ·subst hn0;have hz:∀(W:World) A c,PsOn (fun k=>w.heap.size≤k) d W (.slice A 0 c) []:=fun W A c=>PsOn.mono (d:=0) ⟨rfl,A,c,rfl⟩ (E3 _)
  have cg:Calls Tryz.prog 96 #[.slice A 0 c] w fun e w'=>∃A' c',e=.returned (.slice A' 0 c')∧Below w w w':=by
   cases A with
   | none=>exact(A5t c w).mono fun e w' ⟨h1,h2⟩=>⟨none,0,h1,h2 ▸ Below.refl _ _⟩
   | some b=>exact(A1E b 0 c [] w rfl (fun k u h=>by simp at h) (fun u h=>by simp at h) (by omega)).mono fun e w' ⟨A',c',h1,_,h2,_⟩=>⟨A',c',h1,h2⟩
  have HZ:=J1 hz;clear hu hsz hz;go_enter Tryz.func57,Tryz.ntmps57;go_wp2_with fail;refine cg.mono ?_;rintro e w1 ⟨A',c',rfl,hb1⟩;clear cg;go_wp2_with fail
  go_loopw [11] (fun i wr=>i=.int .i64 0∧w1=wr) (fun i _=>0)
  case atStart=>exact⟨rfl,rfl⟩
  case round =>
   obtain⟨rfl,rfl⟩:=hrel;go_wp2_with fail;go_ret;exact⟨_,rfl,HZ.out _ _ _,hb1⟩
 obtain⟨d,rfl⟩:∃e,d=e+1:=by
  cases d with
  | zero=>exact absurd hu.1 hn0
  | succ d=>exact⟨d,rfl⟩
 obtain⟨L,hLl,hL⟩:=hu.rows
 have hlen:L.length=l.length:=by rw[←hLl,E0]
 have hlp:0<l.length:=by
  cases l with
  | nil=>exact absurd rfl hn0
  | cons a r=>simp
 obtain⟨b,rfl⟩:∃b,A=some b:=by
  obtain⟨x,hx⟩:∃x,L[0]?=some x:=⟨_,A8 (by omega)⟩
  obtain⟨b,o,s,h,_⟩:=hL 0 x hx;exact⟨_,h⟩
 have hln:l.length≤1000:=D5 (Pr.sizes_length l) hsz
 have hrd:∀(j:Nat) (x:Pd × Value),L[j]?=some x→PdCell w (b.add (j*14)) x.1.f x.2:=fun j x h=>by
  obtain⟨b',o,s,h1,_,h2,_⟩:=hL j x h;cases h1;exact h2
 have hone:∀u∈pdCells L,u.oneCell'=true:=by
  intro u hu;simp only[pdCells,List.mem_flatMap]at hu;obtain⟨x,hx,hu⟩:=hu;obtain⟨j,hj⟩:=List.mem_iff_getElem?.1 hx;obtain⟨_,_,_,_,_,_,hk⟩:=hL j x hj;obtain⟨A2,c2,h2,_⟩:=hk.form;rw[h2]at hu;exact A0K _ _ _ _ u hu
 have cg:=A1E b l.length c (pdCells L) w (by rw[R5,hlen]) (A3d hrd) hone (by omega)
 have hHang:∀W,Below w w W→∀(j:Nat) (x:Pd × Value),L[j]?=some x→PsAt d W x.2 x.1.ps:=fun W hb j x h=>by
  obtain⟨_,_,_,_,_,_,hk⟩:=hL j x h;exact hk.below hb (C3 _)
 have hsize:∀(j:Nat) (x:Pd × Value),L[j]?=some x→Pr.sizes x.1.ps≤1000:=fun j x h=>by
  have h2:l[j]?=some x.1:=by rw[←hLl,F5,h];rfl
  have:=Pr.sizes_down h2;omega
 have hfst:∀(j:Nat) (x:Pd × Value),L[j]?=some x→l[j]?=some x.1:=fun j x h=>by rw[←hLl,F5,h];rfl
 have HH:=J1 hHang;have HZ:=J1 hsize;have HF:=J1 hfst;have HLL:=J1 hlen
 
 obtain⟨n,hn⟩:∃n,n=l.length:=⟨_,rfl⟩;rw[←hn]at cg hl hlp hln HLL ⊢;have HN:=J1 hn;clear hu hsz hn hn0 hL hLl hlen hrd hone hHang hsize hfst;go_enter Tryz.func57,Tryz.ntmps57;go_wp2_with fail;refine cg.mono ?_;rintro e w1 ⟨A',c',rfl,hnc,hb1,hor⟩
 obtain⟨g,rfl,hg,hrow1⟩:=hor.resolve_left (by omega)
 have HNC:=J1 hnc;have HG:=J1 hg;have hgl:=J1 hrow1.lt;have HR:=J1 hrow1;obtain⟨T1,hT1⟩:∃T1:Nat→Prop,T1=fun k=>w1.heap.size≤k:=⟨_,rfl⟩;have HT1:=J1 hT1;clear cg hor hrow1 hnc hT1 hg;go_wp2_with fail
 go_loopw [11] (fun i wr=>∃(q:Nat) (M:List (Pd × Value)),q≤n∧i=.int .i64 q∧Hid (M.length=n∧∀(j:Nat) (x:Pd × Value),M[j]?=some x→(q≤j→L[j]?=some x)∧(j<q→l[j]?=some x.1∧PsOn T1 d wr x.2 x.1.ps))∧Hid (RowLies wr g 57 (pdCells M))∧Below w w wr∧Hid (w1.heap.size≤wr.heap.size)) (fun i _=>n-(intOf i).toNat)
 case atStart=>exact⟨0,L,E3 _,rfl,J1 ⟨HLL.out,fun j x h=>⟨fun _=>h,fun hj=>by omega⟩⟩,HR,hb1,J1 (C3 _)⟩
 case round =>
  obtain⟨q,M,hq,rfl,hM,hrow,hb,hsz1⟩:=hrel
  by_cases hlt:q<n
  ·obtain⟨⟨x,xu⟩,hMx⟩:∃x,M[q]?=some x:=⟨M[q]'(by have:=hM.out.1;omega),A8 _⟩
   have hLx:=(hM.out.2 q _ hMx).1 (C3 _);have hcell:=hrow.out.pd hMx;have hk1:=HH.out wr hb q _ hLx;obtain⟨A2,c2,hA2,_⟩:=hk1.form;change xu=.slice A2 x.ps.length c2 at hA2;subst hA2;have hba:Below w w (wr.alloc (Obj.cells #[x.f.k,x.f.u,x.f.o,x.f.a.k,x.f.a.t,x.f.a.c,x.f.a.z,x.f.a.n,x.f.b.k,x.f.b.t,x.f.b.c,x.f.b.z,x.f.b.n,.slice A2 x.ps.length c2] 57)):=J5 hb (J6 _ _);have cs:=A8a d x.f _ x.ps _ (HH.out _ hba q _ hLx) (HZ.out q _ hLx);have hfst:=HF.out q _ hLx;have hrowa:=hrow.out.block (w':=wr.alloc (Obj.cells #[x.f.k,x.f.u,x.f.o,x.f.a.k,x.f.a.t,x.f.a.c,x.f.a.z,x.f.a.n,x.f.b.k,x.f.b.t,x.f.b.c,x.f.b.z,x.f.b.n,.slice A2 x.ps.length c2] 57)) (Below.heap_alloc _ _ _ hrow.out.lt);have HRA:=J1 hrowa;have HBA:=J1 hba;have HFX:=J1 hfst;have HMX:=J1 hMx;have hgs:=hrow.out.lt;obtain⟨x0,x1,x2,x3,x4,x5,x6,x7,x8,x9,x10,x11,x12,x13⟩:=hcell;dsimp only at x0 x1 x2 x3 x4 x5 x6 x7 x8 x9 x10 x11 x12 x13;have CS:=J1 cs;clear hLx hk1 hba hfst hrowa hMx cs;go_wp2_with fail;refine CS.out.mono ?_;rintro e2 w2 ⟨u2,rfl,hnu,hb2⟩;obtain⟨B2,k2,rfl⟩:=hnu.form;have hrow2:=HRA.out.block (w':=w2) (hb2.block _ HRA.out.lt);have hb3:=J1 (J5 HBA.out hb2);have hcell2:=hrow2.pd HMX.out;obtain⟨z0,z1,z2,z3,z4,z5,z6,z7,z8,z9,z10,z11,z12,z13⟩:=hcell2;dsimp only at z0 z1 z2 z3 z4 z5 z6 z7 z8 z9 z10 z11 z12 z13;have f0:=hrow2.free (q*14);have f1:=hrow2.free (q*14+1);have f2:=hrow2.free (q*14+2);have f3:=hrow2.free (q*14+3);have f4:=hrow2.free (q*14+4);have f5:=hrow2.free (q*14+5);have f6:=hrow2.free (q*14+6);have f7:=hrow2.free (q*14+7);have f8:=hrow2.free (q*14+8);have f9:=hrow2.free (q*14+9);have f10:=hrow2.free (q*14+10);have f11:=hrow2.free (q*14+11);have f12:=hrow2.free (q*14+12);have f13:=hrow2.free (q*14+13);have hs2:=hb2.size;rw[J2]at hs2;have HS2:=J1 hs2
   have hlen2:q<M.length:=by have:=hM.out.1;omega
   obtain⟨u1,u2,u3⟩:=A3Z (y:=(x,.slice B2 x.ps.length k2)) hlen2
   have hrow4:=J1 (RowLies.sets (ys:=[x.f.k,x.f.u,x.f.o,x.f.a.k,x.f.a.t,x.f.a.c,x.f.a.z,x.f.a.n,x.f.b.k,x.f.b.t,x.f.b.c,x.f.b.z,x.f.b.n,.slice B2 x.ps.length k2]) (o:=q*14) hrow2 u1 (by rw[R5];show q*14+14≤_;omega) u2 (fun i hi=>u3 i hi))
   have hb4:=J1 (Below.sets (B:=w.heap.size) (g:=g) HG.out [x.f.k,x.f.u,x.f.o,x.f.a.k,x.f.a.t,x.f.a.c,x.f.a.z,x.f.a.n,x.f.b.k,x.f.b.t,x.f.b.c,x.f.b.z,x.f.b.n,.slice B2 x.ps.length k2] (q*14) hb3.out);have hsz4:w2.heap.size=(setCells w2 g (q*14) [x.f.k,x.f.u,x.f.o,x.f.a.k,x.f.a.t,x.f.a.c,x.f.a.z,x.f.a.n,x.f.b.k,x.f.b.t,x.f.b.c,x.f.b.z,x.f.b.n,.slice B2 x.ps.length k2]).heap.size:=(N0 _ _ _ _).symm
   have hM4:Hid ((M.set q (x,.slice B2 x.ps.length k2)).length=n∧∀(j:Nat) (z:Pd × Value),(M.set q (x,.slice B2 x.ps.length k2))[j]?=some z→(q+1≤j→L[j]?=some z)∧(j<q+1→l[j]?=some z.1∧PsOn T1 d (setCells w2 g (q*14) [x.f.k,x.f.u,x.f.o,x.f.a.k,x.f.a.t,x.f.a.c,x.f.a.z,x.f.a.n,x.f.b.k,x.f.b.t,x.f.b.c,x.f.b.z,x.f.b.n,.slice B2 x.ps.length k2]) z.2 z.1.ps)):=J1 (by
    have hs0:=hsz1.out;have hgl2:=hgl.out
    have hkeep:∀k,T1 k→k<w2.heap.size→(setCells w2 g (q*14) [x.f.k,x.f.u,x.f.o,x.f.a.k,x.f.a.t,x.f.a.c,x.f.a.z,x.f.a.n,x.f.b.k,x.f.b.t,x.f.b.c,x.f.b.z,x.f.b.n,.slice B2 x.ps.length k2]).heap[k]?=w2.heap[k]?∧T1 k:=fun k hk _=>⟨M6 _ _ (by rw[HT1.out]at hk;omega) _ _ _,hk⟩
    have hkeep1:∀k,T1 k→k<wr.heap.size→(setCells w2 g (q*14) [x.f.k,x.f.u,x.f.o,x.f.a.k,x.f.a.t,x.f.a.c,x.f.a.z,x.f.a.n,x.f.b.k,x.f.b.t,x.f.b.c,x.f.b.z,x.f.b.n,.slice B2 x.ps.length k2]).heap[k]?=wr.heap[k]?∧T1 k:=fun k hk hlt=>⟨((hkeep k hk (by omega)).1.trans (hb2.block k (by rw[J2];omega))).trans (Below.heap_alloc _ _ _ hlt),hk⟩
    refine⟨by rw[List.length_set];exact hM.out.1,fun j z hz=>?_⟩
    by_cases hj:j=q
    ·subst hj;rw[List.getElem?_set_self hlen2]at hz;cases hz
     refine⟨fun h=>by omega,fun _=>⟨HFX.out,?_⟩⟩
     exact hnu.on.keep (by omega) (fun k hk hlt=>hkeep k (by rw[J2]at hk;rw[HT1.out];omega) hlt)
    ·rw[List.getElem?_set_ne (fun e=>hj e.symm)]at hz;obtain⟨h1,h2⟩:=hM.out.2 j z hz
     refine⟨fun h=>h1 (by omega),fun h=>?_⟩
     obtain⟨h3,h4⟩:=h2 (by omega)
     exact⟨h3,h4.keep (by omega) hkeep1⟩)
   have hsz5:=J1 (show w1.heap.size≤(setCells w2 g (q*14) [x.f.k,x.f.u,x.f.o,x.f.a.k,x.f.a.t,x.f.a.c,x.f.a.z,x.f.a.n,x.f.b.k,x.f.b.t,x.f.b.c,x.f.b.z,x.f.b.n,.slice B2 x.ps.length k2]).heap.size by have:=hsz1.out;omega)
   clear hrow hrow2 hM hb hb2 hnu u1 u2 u3 hlen2 hsz4 hs2 hgs x0 x1 x2 x3 x4 x5 x6 x7 x8 x9 x10 x11 x12 x13 CS HRA HBA;go_wp2_with fail
   go_roundw
   case rel=>exact⟨q+1,_,by omega,by go_num,hM4,hrow4,hb4.out,hsz5⟩
   case measure=>simp[intOf];omega
  ·obtain rfl:q=n:=by omega
   have hres:PsOn (fun k=>w.heap.size≤k) (d+1) wr (.slice (some ⟨g,0,none⟩) q c') l:=by
    refine⟨_,c',by rw[HN.out],by have:=HN.out;omega,fun j a ha=>?_⟩
    have hj:j<q:=by rw[HN.out];exact(D8.1 ha).1
    obtain⟨x,hx⟩:∃x,M[j]?=some x:=⟨M[j]'(by have:=hM.out.1;omega),A8 _⟩
    obtain⟨h1,h2⟩:=(hM.out.2 j x hx).2 hj;rw[ha]at h1;cases h1;have hcell:=hrow.out.pd hx
    have hlow:∀k,T1 k→k<wr.heap.size→wr.heap[k]?=wr.heap[k]?∧w.heap.size≤k:=fun k hk _=>⟨rfl,by rw[HT1.out]at hk;have:=hb1.size;omega⟩
    exact⟨g,0,none,_,rfl,HG.out,hrow.out.lt,by rw[S5];exact hcell,h2.keep (C3 _) hlow⟩
   have HRES:=J1 hres;clear hres hM hrow;go_wp2_with fail;go_ret;exact⟨_,rfl,HRES.out,hb⟩
theorem A7P (d:Nat) (ih:∀e,e<d→∀(a:Tr) (u v:Value) (w:World),TsAt e w u a.ks→PsSome w v a.cs→Tr.size a≤1000→Calls Tryz.prog 32 #[.agg #[a.k,a.t,u,v,a.h]] w (NewTr e w a)) (u:Value) (l:List Tr) (w:World) (hu:TsAt d w u l) (hsz:Tr.sizes l≤1000) :
  Calls Tryz.prog 56 #[u,.func (.func 32) #[] #[]] w fun e w'=>∃r,e=.returned r∧TsTop w.heap.size d w' r l∧Below w w w':=by
 obtain⟨A,c,rfl,hl⟩:=hu.form
 by_cases hn0:l=[]
 ·subst hn0;have hz:∀(W:World) A c,TsTop w.heap.size d W (.slice A 0 c) []:=fun W A c=>TsTop.nil _ _ _ _ _
  have cg:Calls Tryz.prog 54 #[.slice A 0 c] w fun e w'=>∃A' c',e=.returned (.slice A' 0 c')∧Below w w w':=by
   cases A with
   | none=>exact(A11 c w).mono fun e w' ⟨h1,h2⟩=>⟨none,0,h1,h2 ▸ Below.refl _ _⟩
   | some b=>exact(X7 b 0 c [] w rfl (fun k u h=>by simp at h) (fun u h=>by simp at h) (by omega)).mono fun e w' ⟨A',c',h1,_,h2,_⟩=>⟨A',c',h1,h2⟩
  have HZ:=J1 hz;clear hu ih hsz hz;go_enter Tryz.func56,Tryz.ntmps56;go_wp2_with fail;refine cg.mono ?_;rintro e w1 ⟨A',c',rfl,hb1⟩;clear cg;go_wp2_with fail
  go_loopw [11] (fun i wr=>i=.int .i64 0∧w1=wr) (fun i _=>0)
  case atStart=>exact⟨rfl,rfl⟩
  case round =>
   obtain⟨rfl,rfl⟩:=hrel;go_wp2_with fail;go_ret;exact⟨_,rfl,HZ.out _ _ _,hb1⟩
 obtain⟨d,rfl⟩:∃e,d=e+1:=by
  cases d with
  | zero=>exact absurd hu.1 hn0
  | succ d=>exact⟨d,rfl⟩
 obtain⟨L,hLl,hL⟩:=hu.rows
 have hlen:L.length=l.length:=by rw[←hLl,E0]
 have hlp:0<l.length:=by
  cases l with
  | nil=>exact absurd rfl hn0
  | cons a r=>simp
 obtain⟨b,rfl⟩:∃b,A=some b:=by
  obtain⟨x,hx⟩:∃x,L[0]?=some x:=⟨_,A8 (by omega)⟩
  obtain⟨b,o,s,h,_⟩:=hL 0 x hx;exact⟨_,h⟩
 have hln:l.length≤1000:=D5 (Tr.sizes_length l) hsz
 have hrd:∀(j:Nat) (x:TrV),L[j]?=some x→TrCell w (b.add (j*5)) x.1 x.2.1 x.2.2:=fun j x h=>by
  obtain⟨b',o,s,h1,_,h2,_⟩:=hL j x h;cases h1;exact h2
 have hone:∀u∈trCells L,u.oneCell'=true:=by
  intro u hu;simp only[trCells,List.mem_flatMap]at hu;obtain⟨x,hx,hu⟩:=hu;obtain⟨j,hj⟩:=List.mem_iff_getElem?.1 hx;obtain⟨_,_,_,_,_,_,⟨D,hp⟩,hk⟩:=hL j x hj;obtain⟨A2,c2,h2,_⟩:=hk.form;obtain⟨A4,c4,h4,_⟩:=hp.form;rw[h2,h4]at hu
  simp[Tr.cells]at hu
  rcases hu with rfl | rfl | rfl | rfl | rfl <;> rfl
 have cg:=X7 b l.length c (trCells L) w (by rw[M7,hlen]) (Y1 hrd) hone (by omega)
 have hHang:∀W,Below w w W→∀(j:Nat) (x:TrV),L[j]?=some x→TsAt d W x.2.1 x.1.ks∧PsSome W x.2.2 x.1.cs:=fun W hb j x h=>by
  obtain⟨_,_,_,_,_,_,hp,hk⟩:=hL j x h;exact⟨hk.below hb (C3 _),hp.below hb (C3 _)⟩
 have hsize:∀(j:Nat) (x:TrV),L[j]?=some x→Tr.size x.1≤1000:=fun j x h=>by
  have h2:l[j]?=some x.1:=by rw[←hLl,F5,h];rfl
  have:=Tr.sizes_at h2;omega
 have hfst:∀(j:Nat) (x:TrV),L[j]?=some x→l[j]?=some x.1:=fun j x h=>by rw[←hLl,F5,h];rfl
 have HH:=J1 hHang;have HZ:=J1 hsize;have HF:=J1 hfst;have HLL:=J1 hlen;have IH:=J1 ih;obtain⟨n,hn⟩:∃n,n=l.length:=⟨_,rfl⟩;rw[←hn]at cg hl hlp hln HLL ⊢;have HN:=J1 hn;clear hu ih hsz hn hn0 hL hLl hlen hrd hone hHang hsize hfst;go_enter Tryz.func56,Tryz.ntmps56;go_wp2_with fail;refine cg.mono ?_;rintro e w1 ⟨A',c',rfl,hnc,hb1,hor⟩
 obtain⟨g,rfl,hg,hrow1⟩:=hor.resolve_left (by omega)
 have HNC:=J1 hnc;have HG:=J1 hg;have hgl:=J1 hrow1.lt;have HR:=J1 hrow1;obtain⟨T1,hT1⟩:∃T1:Nat→Prop,T1=fun k=>w1.heap.size≤k:=⟨_,rfl⟩;have HT1:=J1 hT1;clear cg hor hrow1 hnc hT1 hg;go_wp2_with fail
 go_loopw [11] (fun i wr=>∃(q:Nat) (M:List (TrV)),q≤n∧i=.int .i64 q∧Hid (M.length=n∧∀(j:Nat) (x:TrV),M[j]?=some x→(q≤j→L[j]?=some x)∧(j<q→l[j]?=some x.1∧TsOn T1 d wr x.2.1 x.1.ks∧∃D,PsOn T1 D wr x.2.2 x.1.cs))∧Hid (RowLies wr g 26 (trCells M))∧Below w w wr∧Hid (w1.heap.size≤wr.heap.size)) (fun i _=>n-(intOf i).toNat)
 case atStart=>exact⟨0,L,E3 _,rfl,J1 ⟨HLL.out,fun j x h=>⟨fun _=>h,fun hj=>by omega⟩⟩,HR,hb1,J1 (C3 _)⟩
 case round =>
  obtain⟨q,M,hq,rfl,hM,hrow,hb,hsz1⟩:=hrel
  by_cases hlt:q<n
  ·obtain⟨⟨x,xu,xv⟩,hMx⟩:∃x,M[q]?=some x:=⟨M[q]'(by have:=hM.out.1;omega),A8 _⟩
   have hLx:=(hM.out.2 q _ hMx).1 (C3 _);have hcell:=hrow.out.tr hMx;obtain⟨hk1,hp1⟩:=HH.out wr hb q _ hLx;obtain⟨A2,c2,hA2,_⟩:=hk1.form;obtain⟨A4,c4,hA4,_⟩:=hp1.elim fun D h=>h.form;change xu=.slice A2 x.ks.length c2 at hA2;change xv=.slice A4 x.cs.length c4 at hA4;subst hA2 hA4;have hba:Below w w (wr.alloc (Obj.cells #[x.k,x.t,.slice A2 x.ks.length c2,.slice A4 x.cs.length c4,x.h] 26)):=J5 hb (J6 _ _);obtain⟨hk2,hp2⟩:=HH.out _ hba q _ hLx;have cs:=IH.out d (Nat.lt_succ_self d) x _ _ _ hk2 hp2 (HZ.out q _ hLx);have hfst:=HF.out q _ hLx;have hrowa:=hrow.out.block (w':=wr.alloc (Obj.cells #[x.k,x.t,.slice A2 x.ks.length c2,.slice A4 x.cs.length c4,x.h] 26)) (Below.heap_alloc _ _ _ hrow.out.lt);have HRA:=J1 hrowa;have HBA:=J1 hba;have HFX:=J1 hfst;have HMX:=J1 hMx;have hgs:=hrow.out.lt;obtain⟨x0,x1,x2,x3,x4⟩:=hcell;dsimp only at x0 x1 x2 x3 x4;have CS:=J1 cs;clear hLx hk1 hp1 hk2 hp2 hba hfst hrowa hMx cs;go_wp2_with fail;refine CS.out.mono ?_;rintro e2 w2 ⟨u2,v2,rfl,hnu,hnv,hb2⟩;replace hnu:=hnu.on;obtain⟨B2,k2,rfl,_⟩:=hnu.at_.form;obtain⟨B4,k4,rfl,_⟩:=hnv.elim fun D h=>h.at_.form;have hrow2:=HRA.out.block (w':=w2) (hb2.block _ HRA.out.lt);have hb3:=J1 (J5 HBA.out hb2);have hcell2:=hrow2.tr HMX.out;obtain⟨z0,z1,z2,z3,z4⟩:=hcell2;dsimp only at z0 z1 z2 z3 z4;have f0:=hrow2.free (q*5);have f1:=hrow2.free (q*5+1);have f2:=hrow2.free (q*5+2);have f3:=hrow2.free (q*5+3);have f4:=hrow2.free (q*5+4);have hs2:=hb2.size;rw[J2]at hs2;have HS2:=J1 hs2
   have hlen2:q<M.length:=by have:=hM.out.1;omega
   obtain⟨u1,u2,u3⟩:=Y7 (y:=(x,.slice B2 x.ks.length k2,.slice B4 x.cs.length k4)) hlen2
   have hrow4:=J1 (RowLies.sets (ys:=[x.k,x.t,.slice B2 x.ks.length k2,.slice B4 x.cs.length k4,x.h]) (o:=q*5) hrow2 u1 (by rw[M7];show q*5+5≤_;omega) u2 (fun i hi=>u3 i hi))
   have hb4:=J1 (Below.sets (B:=w.heap.size) (g:=g) HG.out [x.k,x.t,.slice B2 x.ks.length k2,.slice B4 x.cs.length k4,x.h] (q*5) hb3.out);have hsz4:w2.heap.size=(setCells w2 g (q*5) [x.k,x.t,.slice B2 x.ks.length k2,.slice B4 x.cs.length k4,x.h]).heap.size:=(N0 _ _ _ _).symm
   have hM4:Hid ((M.set q (x,.slice B2 x.ks.length k2,.slice B4 x.cs.length k4)).length=n∧∀(j:Nat) (z:TrV),(M.set q (x,.slice B2 x.ks.length k2,.slice B4 x.cs.length k4))[j]?=some z→(q+1≤j→L[j]?=some z)∧(j<q+1→l[j]?=some z.1∧TsOn T1 d (setCells w2 g (q*5) [x.k,x.t,.slice B2 x.ks.length k2,.slice B4 x.cs.length k4,x.h]) z.2.1 z.1.ks∧∃D,PsOn T1 D (setCells w2 g (q*5) [x.k,x.t,.slice B2 x.ks.length k2,.slice B4 x.cs.length k4,x.h]) z.2.2 z.1.cs)):=J1 (by
    have hs0:=hsz1.out;have hgl2:=hgl.out
    have hkeep:∀k,T1 k→k<w2.heap.size→(setCells w2 g (q*5) [x.k,x.t,.slice B2 x.ks.length k2,.slice B4 x.cs.length k4,x.h]).heap[k]?=w2.heap[k]?∧T1 k:=fun k hk _=>⟨M6 _ _ (by rw[HT1.out]at hk;omega) _ _ _,hk⟩
    have hkeep1:∀k,T1 k→k<wr.heap.size→(setCells w2 g (q*5) [x.k,x.t,.slice B2 x.ks.length k2,.slice B4 x.cs.length k4,x.h]).heap[k]?=wr.heap[k]?∧T1 k:=fun k hk hlt=>⟨((hkeep k hk (by omega)).1.trans (hb2.block k (by rw[J2];omega))).trans (Below.heap_alloc _ _ _ hlt),hk⟩
    refine⟨by rw[List.length_set];exact hM.out.1,fun j z hz=>?_⟩
    by_cases hj:j=q
    ·subst hj;rw[List.getElem?_set_self hlen2]at hz;cases hz
     refine⟨fun h=>by omega,fun _=>⟨HFX.out,?_⟩⟩
     have hk5:∀k,(wr.alloc (Obj.cells #[x.k,x.t,.slice A2 x.ks.length c2,.slice A4 x.cs.length c4,x.h] 26)).heap.size≤k→k<w2.heap.size→(setCells w2 g (j*5) [x.k,x.t,.slice B2 x.ks.length k2,.slice B4 x.cs.length k4,x.h]).heap[k]?=w2.heap[k]?∧T1 k:=fun k hk hlt=>by
      have ht:T1 k:=by rw[HT1.out,J2]at *;omega
      exact hkeep k ht hlt
     exact⟨hnu.keep (by omega) hk5,hnv.elim fun D h=>⟨D,h.keep (by omega) fun k hk=>hk5 k hk.1⟩⟩
    ·rw[List.getElem?_set_ne (fun e=>hj e.symm)]at hz;obtain⟨h1,h2⟩:=hM.out.2 j z hz
     refine⟨fun h=>h1 (by omega),fun h=>?_⟩
     obtain⟨h3,h4⟩:=h2 (by omega)
     exact⟨h3,h4.1.keep (by omega) hkeep1,h4.2.elim fun D h=>⟨D,h.keep (by omega) hkeep1⟩⟩)
   have hsz5:=J1 (show w1.heap.size≤(setCells w2 g (q*5) [x.k,x.t,.slice B2 x.ks.length k2,.slice B4 x.cs.length k4,x.h]).heap.size by have:=hsz1.out;omega)
   clear hrow hrow2 hM hb hb2 hnu hnv u1 u2 u3 hlen2 hsz4 hs2 hgs x0 x1 x2 x3 x4 CS HRA HBA;go_wp2_with fail
   go_roundw
   case rel=>exact⟨q+1,_,by omega,by go_num,hM4,hrow4,hb4.out,hsz5⟩
   case measure=>simp[intOf];omega
  ·obtain rfl:q=n:=by omega
   have hMl:M.map (·.1)=l:=by
    refine List.ext_getElem? fun j=>?_;rw[F5]
    cases hx:M[j]? with
    | none =>
     rw[List.getElem?_eq_none_iff]at hx
     exact(List.getElem?_eq_none_iff.2 (by have:=HN.out;have:=hM.out.1;omega)).symm
    | some x =>
     have hj:j<q:=by have:=hM.out.1;have:=(D8.1 hx).1;omega
     exact(((hM.out.2 j x hx).2 hj).1).symm
   have hres:TsTop w.heap.size (d+1) wr (.slice (some ⟨g,0,none⟩) q c') l:=by
    have hgl2:=hgl.out
    have hlow:∀k,T1 k→k<wr.heap.size→wr.heap[k]?=wr.heap[k]?∧g<k:=fun k hk _=>⟨rfl,by rw[HT1.out]at hk;omega⟩
    refine⟨M,_,c',hMl,by rw[HN.out],⟨by have:=HN.out;omega,by rw[←HN.out];exact HNC.out⟩,.inr ⟨g,d,rfl,rfl,HG.out,hrow.out,fun j x hx=>?_⟩⟩
    have hj:j<q:=by have:=hM.out.1;have:=(D8.1 hx).1;omega
    obtain⟨h1,h2⟩:=(hM.out.2 j x hx).2 hj;exact⟨h2.2.elim fun D h=>⟨D,h.keep (C3 _) hlow⟩,h2.1.keep (C3 _) hlow⟩
   have HRES:=J1 hres;clear hres hM hrow;go_wp2_with fail;go_ret;exact⟨_,rfl,HRES.out,hb⟩
theorem Pr.sizes_of_size {a:Tr} {n:Nat} (h:Tr.size a≤n):Pr.sizes a.cs≤n∧Tr.sizes a.ks≤n:=by rw[Tr.size_at]at h;omega
theorem A7Q (d:Nat):∀(a:Tr) (u v:Value) (w:World),TsAt d w u a.ks→PsSome w v a.cs→Tr.size a≤1000→Calls Tryz.prog 32 #[.agg #[a.k,a.t,u,v,a.h]] w (NewTr d w a):=by
 induction d using Nat.strongRecOn with
 | ind d ih =>
 intro a u v w hu hv hsz;obtain⟨hsp,hst⟩:=Pr.sizes_of_size hsz;obtain⟨D,hv⟩:=hv;obtain⟨A,c,rfl,hl⟩:=hu.form;obtain⟨A',c',rfl,hl'⟩:=hv.form;obtain⟨W0,hW0⟩:∃W0,W0=(w.alloc (Obj.cells #[a.k,a.t,.slice A a.ks.length c,.slice A' a.cs.length c',a.h] 26)).alloc (Obj.cells #[z9,z9,(),(),false] 26):=⟨_,rfl⟩;obtain⟨l0,l1,hb0⟩:=Q0 (cs:=a.cells (.slice A a.ks.length c) (.slice A' a.cs.length c')) (ds:=[z9,z9,(),(),false]) hW0;have cs:=A7P d ih _ a.ks W0 (hu.below hb0 (C3 _)) hst;have HV:=J1 hv;have HSP:=J1 hsp;have HW:=J1 hW0;have HP:=J1 l0;have HQ:=J1 l1
 have hsz0:W0.heap.size=w.heap.size+1+1:=by rw[hW0,J2,J2]
 have x2:=l0.tr.c2;clear hu hv hW0 l0 l1 ih hsz hsp hst;go_enter Tryz.func32,Tryz.ntmps32
 go_upto_region 1 with(fail)
 rw[←HW.out];go_wp2_with fail;refine cs.mono ?_;rintro e w2 ⟨r,rfl,hin,hb2⟩;obtain⟨B2,c2,rfl,_⟩:=hin.on.at_.form;clear cs x2;have l2:=HP.out.below hb2 HP.out.lt;have q2:=HQ.out.below hb2 HQ.out.lt;have HIN:=J1 hin;have x2:=l2.tr.c2;have fr:=l2.free 2;have HL2:=J1 l2;have HQ2:=J1 q2;clear hin l2 q2
 go_upto_region 2 with(fail)
 obtain⟨W3,hW3⟩:∃W3,W3=w2.setCell ⟨w.heap.size,2,none⟩ (.slice B2 a.ks.length c2):=⟨_,rfl⟩;rw[←hW3]
 have l3:Lies W3 w.heap.size 26 (a.cells (.slice B2 a.ks.length c2) (.slice A' a.cs.length c')):=by rw[hW3];exact HL2.out.set 2 _
 have q3:Lies W3 (w.heap.size+1) 26 [z9,z9,(),(),false]:=by rw[hW3];exact HQ2.out.far (by show w.heap.size+1≠w.heap.size;omega) _
 have hs3:w2.heap.size=W3.heap.size:=by rw[hW3];simp[World.setCell]
 have hk3:∀k,W0.heap.size≤k→W3.heap[k]?=w2.heap[k]?:=fun k hk=>by rw[hW3];exact Below.heap_setCell _ _ _ _ (by show k≠w.heap.size;omega)
 have hin3:TsTop W0.heap.size d W3 (.slice B2 a.ks.length c2) a.ks:=HIN.out.keep (by omega) fun k hk _=>⟨hk3 k hk,hk⟩
 have hb3:Below w w W3:=by rw[hW3];exact(J5 hb0 hb2).setCell (C3 _) _
 have cp:=A5s D _ a.cs W3 (HV.out.below hb3 (C3 _)) HSP.out;have HIN3:=J1 hin3;have HB3:=J1 hb3;have HL3:=J1 l3;have HQ3:=J1 q3
 have hle3:W0.heap.size≤W3.heap.size:=by have:=hb2.size;omega
 have HSZ:=J1 (show w.heap.size+1<W3.heap.size∧w.heap.size+1<W0.heap.size∧W0.heap.size≤W3.heap.size from⟨by omega,by omega,hle3⟩)
 have x3:=l3.tr.c3;clear hW3 l3 q3 hin3 hb3 fr hb0 hb2 hsz0 hs3 hk3 x2 hle3;go_wp2_with fail;refine cp.mono ?_;rintro e w4 ⟨r,rfl,hin,hb4⟩;obtain⟨B4,c4,rfl,_⟩:=hin.at_.form;clear cp x3
 have l4:=HL3.out.below hb4 (by have:=HSZ.out;omega)
 have q4:=HQ3.out.below hb4 HSZ.out.1;have x3:=l4.tr.c3;have fr:=l4.free 3;have HIN4:=J1 hin;have HL4:=J1 l4;have HQ4:=J1 q4;have HB4:=J1 hb4;clear hin l4 q4 hb4
 go_upto_region 3 with(fail)
 obtain⟨W5,hW5⟩:∃W5,W5=w4.setCell ⟨w.heap.size,3,none⟩ (.slice B4 a.cs.length c4):=⟨_,rfl⟩;rw[←hW5]
 have l5:Lies W5 w.heap.size 26 (a.cells (.slice B2 a.ks.length c2) (.slice B4 a.cs.length c4)):=by rw[hW5];exact HL4.out.set 3 _
 have q5:Lies W5 (w.heap.size+1) 26 [z9,z9,(),(),false]:=by rw[hW5];exact HQ4.out.far (by show w.heap.size+1≠w.heap.size;omega) _
 have HW5:=J1 hW5;have HQ5:=J1 q5;obtain⟨x0,x1,x2,x3,x4⟩:=l5.tr;simp only[G6]at x0 x1 x2 x3 x4;have z0:=q5.c 0 rfl;have z1:=q5.c 1 rfl;have z2:=q5.c 2 rfl;have z3:=q5.c 3 rfl;have z4:=q5.c 4 rfl;have f0:=q5.free 0;have f1:=q5.free 1;have f2:=q5.free 2;have f3:=q5.free 3;have f4:=q5.free 4;clear hW5 l5 q5 fr;go_wp2_with fail;obtain⟨W6,hW6⟩:∃W6,W6=setCells W5 (w.heap.size+1) 0 [a.k,a.t,.slice B2 a.ks.length c2,.slice B4 a.cs.length c4,a.h]:=⟨_,rfl⟩;simp only[setCells]at hW6;rw[←hW6];change W6=setCells W5 (w.heap.size+1) 0 [a.k,a.t,.slice B2 a.ks.length c2,.slice B4 a.cs.length c4,a.h]at hW6
 have q6:Lies W6 (w.heap.size+1) 26 (a.cells (.slice B2 a.ks.length c2) (.slice B4 a.cs.length c4)):=by rw[hW6];exact HQ5.out.sets _ 0
 have hs6:W6.heap.size=w4.heap.size:=by rw[hW6,N0,HW5.out];simp[World.setCell]
 have hk6:∀k,W0.heap.size≤k→W6.heap[k]?=w4.heap[k]?:=fun k hk=>by
  rw[hW6,M6 _ _ (by have:=HSZ.out;omega),HW5.out];exact Below.heap_setCell _ _ _ _ (by show k≠w.heap.size;have:=HSZ.out;omega)
 have hin6:TsTop w.heap.size d W6 (.slice B2 a.ks.length c2) a.ks:=HIN3.out.keep (by have:=HB4.out.size;omega) fun k hk hlt=>⟨(hk6 k hk).trans (HB4.out.block k hlt),by have:=HSZ.out;omega⟩
 have hip6:PsOn (fun k=>w.heap.size≤k∧Apart (.slice B2 a.ks.length c2) k) D W6 (.slice B4 a.cs.length c4) a.cs:=HIN4.out.keep (by omega) fun k hk hlt=>⟨hk6 k (by have:=HSZ.out;omega),by have:=HSZ.out;omega,HIN3.out.apart hk⟩
 have hb6:Below w w W6:=by rw[hW6,HW5.out];exact Below.sets (by omega) _ _ ((J5 HB3.out HB4.out).setCell (C3 _) _)
 clear z0 z1 z2 z3 z4 f0 f1 f2 f3 f4 x0 x1 x2 x3 x4 hW6;obtain⟨x0,x1,x2,x3,x4⟩:=q6.tr;simp only[G6]at x0 x1 x2 x3 x4
 exact bodyPost_ret (v:=.agg #[a.k,a.t,.slice B2 a.ks.length c2,.slice B4 a.cs.length c4,a.h]) (by simp[results,Tryz.results32,go_sem,x0,x1,x2,x3,x4]) rfl ⟨_,_,rfl,hin6,⟨D,hip6⟩,hb6⟩
theorem A1n (a:Tr) (u v:Value) (w:World) (hu:∃d,TsAt d w u a.ks) (hv:PsSome w v a.cs) (hsz:Tr.size a≤1000) :
  Calls Tryz.prog 32 #[.agg #[a.k,a.t,u,v,a.h]] w fun e w'=>∃u' v',e=.returned (.agg #[a.k,a.t,u',v',a.h])∧TrOn (fun k=>w.heap.size≤k) w' (a,u',v')∧Below w w w':=by
 obtain⟨d,hu⟩:=hu;exact(A7Q d a u v w hu hv hsz).mono fun e w' ⟨u',v',he,h1,h2,hb⟩=>⟨u',v',he,⟨⟨d,h1.on⟩,h2.elim fun D h=>⟨D,h.keep (C3 _) fun k hk _=>⟨rfl,hk.1⟩⟩⟩,hb⟩
theorem A22 {L:List TrV} {q:Nat} {x:TrV} (hx:L[q]?=some x) (u':Value) :
  (trCells (L.set q (x.1,u',x.2.2))).length=(trCells L).length∧(∀k,(k<q*5+2∨q*5+2+1≤k)→(trCells (L.set q (x.1,u',x.2.2)))[k]?=(trCells L)[k]?)∧(trCells (L.set q (x.1,u',x.2.2)))[q*5+2]?=some u':=by
 have hq:q<L.length:=(D8.1 hx).1;obtain⟨h1,h2,h3⟩:=Y7 (y:=(x.1,u',x.2.2)) hq
 refine⟨h1,fun k hk=>?_,h3 2 (by decide)⟩
 by_cases hin:q*5≤k∧k<q*5+5
 ·obtain⟨i,rfl⟩:∃i,k=q*5+i:=⟨k-q*5,by omega⟩
  rw[h3 i (by omega),S6 hx (by omega)]
  match i,hk with
  | 0,_=>rfl
  | 1,_=>rfl
  | 2,hk=>omega
  | i+3,_=>rfl
 ·exact h2 k (by omega)
theorem Keeps.setCell {S:Nat→Prop} {W W':World} (h:Keeps S W W') {a:Addr} (v:Value) (ha:¬S a.block∨W.heap.size≤a.block):Keeps S W (W'.setCell a v) :=
 ⟨h.os,h.tape,h.output,by simpa[World.setCell]using h.size,fun k hk hs=>(Below.heap_setCell _ _ _ _ (fun e=>by rcases ha with ha | ha;exact ha (e ▸ hs);omega)).trans (h.same k hk hs)⟩
theorem A0f {S:Nat→Prop} {A B:World} (h:Below A A B):Keeps S A B:=⟨h.os,h.tape,h.output,h.size,fun k hk _=>h.block k hk⟩
theorem TsOn.rows2 {T:Nat→Prop} {d:Nat} {w:World} {A:Option Addr} {n c:Nat} {l:List Tr} (h:TsOn T (d+1) w (.slice A n c) l) :
  ∃L:List TrV,L.map (·.1)=l∧∀(j:Nat) (x:TrV),L[j]?=some x→∃b o s,A=some ⟨b,o,s⟩∧T b∧b<w.heap.size∧TrCell w ((⟨b,o,s⟩:Addr).add (j*5)) x.1 x.2.1 x.2.2∧(∃e,PsOn T e w x.2.2 x.1.cs)∧TsOn T d w x.2.1 x.1.ks:=by
 obtain⟨A',c',hv,_,hx⟩:=h;cases hv
 exact A2H (Q:=fun j (p:Tr) (y:Value × Value)=>∃b o s,A=some ⟨b,o,s⟩∧T b∧b<w.heap.size∧TrCell w ((⟨b,o,s⟩:Addr).add (j*5)) p y.1 y.2∧(∃e,PsOn T e w y.2 p.cs)∧TsOn T d w y.1 p.ks) fun j p hj=>by
  obtain⟨b,o,s,x,y,h1,h2,h3,h4,h5,h6⟩:=hx j p hj;exact⟨(x,y),b,o,s,h1,h2,h3,h4,h5,h6⟩
structure ApEnv (M P:Nat) (w:World):Prop where
 m:∃t i,Lies w M t [.int .i64 i]
 p:w.cell? ⟨P,0,none⟩=some (.func (.func 99) #[] #[.pointer (some ⟨M,0,none⟩),.pointer (some ⟨P,0,none⟩)])
 ne:M≠P
theorem ApEnv.ltm {M P:Nat} {w:World} (h:ApEnv M P w):M<w.heap.size:=by
 obtain⟨t,i,l⟩:=h.m;exact l.lt
theorem ApEnv.ltp {M P:Nat} {w:World} (h:ApEnv M P w):P<w.heap.size:=block_lt_of_cell h.p
theorem ApEnv.keep {M P:Nat} {w w':World} (h:ApEnv M P w) (hm:w'.heap[M]?=w.heap[M]?) (hp:w'.heap[P]?=w.heap[P]?):ApEnv M P w':=by
 obtain⟨t,i,l⟩:=h.m;exact⟨⟨t,i,hm.trans l⟩,(World.cell?_of_block (a:=⟨P,0,none⟩) hp).trans h.p,h.ne⟩
theorem ApEnv.below {M P:Nat} {w w':World} (h:ApEnv M P w) (hb:Below w w w'):ApEnv M P w':=h.keep (hb.block M h.ltm) (hb.block P h.ltp)
theorem ApEnv.made {M P:Nat} {w:World} (h:ApEnv M P w) (i:Int):ApEnv M P (w.setCell ⟨M,0,none⟩ (.int .i64 i)):=by
 obtain⟨t,j,l⟩:=h.m;exact⟨⟨t,i,l.set 0 _⟩,(World.cell?_of_block (a:=⟨P,0,none⟩) (Below.heap_setCell _ _ _ _ (fun e=>h.ne e.symm))).trans h.p,h.ne⟩
theorem A8O (M P:Nat) (T:Nat→Prop) (d:Nat):∀(l:List Tr) (u:Value) (w:World),ApEnv M P w→(∀k,T k→k<w.heap.size)→¬T M→¬T P→TsOn T d w u l→Tr.sizes l≤1000 →
  Calls Tryz.prog 99 #[u,.pointer (some ⟨M,0,none⟩),.pointer (some ⟨P,0,none⟩)] w fun e w'=>∃r,e=.returned r∧TsOn (fun k=>T k∨w.heap.size≤k) d w' r l∧Keeps (fun k=>k≠M) w w'∧ApEnv M P w':=by
 induction d using Nat.strongRecOn with
 | ind d ih =>
 intro l u w he hT hTM hTP hu hsz;obtain⟨A,c,rfl,hl⟩:=hu.at_.form;obtain⟨t0,i0,lm⟩:=he.m;have m0:=lm.c 0 rfl;have fm0:=lm.free 0
 by_cases hn0:l=[]
 ·subst hn0;obtain⟨w1,hw1⟩:∃w1,w1=w.setCell ⟨M,0,none⟩ (.int .i64 (wrap64 i0)):=⟨_,rfl⟩
  have he1:ApEnv M P w1:=by rw[hw1];exact he.made _
  have hk1:Keeps (fun k=>k≠M) w w1:=by rw[hw1];exact(Keeps.refl _ _).setCell _ (.inl fun h=>h rfl)
  have cg:Calls Tryz.prog 54 #[.slice A 0 c] w1 fun e w'=>∃A' c',e=.returned (.slice A' 0 c')∧Below w1 w1 w':=by
   cases A with
   | none=>exact(A11 c w1).mono fun e w' ⟨h1,h2⟩=>⟨none,0,h1,h2 ▸ Below.refl _ _⟩
   | some b=>exact(X7 b 0 c [] w1 rfl (fun k u h=>by simp at h) (fun u h=>by simp at h) (by omega)).mono fun e w' ⟨A',c',h1,_,h2,_⟩=>⟨A',c',h1,h2⟩
  have HW:=J1 hw1;have HE:=J1 he1;have HK:=J1 hk1;clear hu ih hsz he he1 hk1 hw1 hT hTM hTP lm;go_enter Tryz.func99,Tryz.ntmps99;go_wp2_with fail;rw[←HW.out];refine cg.mono ?_;rintro e w2 ⟨A',c',rfl,hb1⟩;clear cg m0 fm0;have HB:=J1 hb1;go_wp2_with fail
  go_loopw [14] (fun i wr=>i=.int .i64 0∧w2=wr) (fun i _=>0)
  case atStart=>exact⟨rfl,rfl⟩
  case round =>
   obtain⟨rfl,rfl⟩:=hrel;go_wp2_with fail;go_ret;exact⟨_,rfl,TsOn.mono (d:=0) ⟨rfl,A',c',rfl⟩ (E3 _),HK.out.trans (A0f HB.out),HE.out.below HB.out⟩
 obtain⟨d,rfl⟩:∃e,d=e+1:=by
  cases d with
  | zero=>exact absurd hu.1 hn0
  | succ d=>exact⟨d,rfl⟩
 obtain⟨L,hLl,hL⟩:=hu.rows2
 have hlen:L.length=l.length:=by rw[←hLl,E0]
 have hlp:0<l.length:=by
  cases l with
  | nil=>exact absurd rfl hn0
  | cons a r=>simp
 obtain⟨b,rfl⟩:∃b,A=some b:=by
  obtain⟨x,hx⟩:∃x,L[0]?=some x:=⟨_,A8 (by omega)⟩
  obtain⟨b,o,s,h,_⟩:=hL 0 x hx;exact⟨_,h⟩
 have hln:l.length≤1000:=D5 (Tr.sizes_length l) hsz;obtain⟨w1,hw1⟩:∃w1,w1=w.setCell ⟨M,0,none⟩ (.int .i64 (wrap64 (i0+(l.length:Nat)))):=⟨_,rfl⟩
 have he1:ApEnv M P w1:=by rw[hw1];exact he.made _
 have hk1:Keeps (fun k=>k≠M) w w1:=by rw[hw1];exact(Keeps.refl _ _).setCell _ (.inl fun h=>h rfl)
 have hs1:w1.heap.size=w.heap.size:=by rw[hw1];simp[World.setCell]
 have hrd:∀(j:Nat) (x:TrV),L[j]?=some x→TrCell w1 (b.add (j*5)) x.1 x.2.1 x.2.2:=fun j x h=>by
  obtain⟨b',o,s,h1,ht,hlt,h2,_⟩:=hL j x h;cases h1
  exact h2.at_block (by rw[L7];exact hk1.same _ hlt (fun e=>hTM (e ▸ ht)))
 have hone:∀u∈trCells L,u.oneCell'=true:=by
  intro u hu;simp only[trCells,List.mem_flatMap]at hu;obtain⟨x,hx,hu⟩:=hu;obtain⟨j,hj⟩:=List.mem_iff_getElem?.1 hx;obtain⟨_,_,_,_,_,_,_,⟨D,hp⟩,hk⟩:=hL j x hj;obtain⟨A2,c2,h2,_⟩:=hk.at_.form;obtain⟨A4,c4,h4,_⟩:=hp.at_.form;rw[h2,h4]at hu
  simp[Tr.cells]at hu
  rcases hu with rfl | rfl | rfl | rfl | rfl <;> rfl
 have cg:=X7 b l.length c (trCells L) w1 (by rw[M7,hlen]) (Y1 hrd) hone (by omega)
 have hHang:∀W,Keeps (fun k=>k≠M) w W→∀(j:Nat) (x:TrV),L[j]?=some x→TsOn T d W x.2.1 x.1.ks∧∃D,PsOn T D W x.2.2 x.1.cs:=fun W hb j x h=>by
  obtain⟨_,_,_,_,_,_,_,⟨D,hp⟩,hk⟩:=hL j x h;have hkk:∀k,T k→k<w.heap.size→W.heap[k]?=w.heap[k]?∧T k:=fun k hk hlt=>⟨hb.same k hlt (fun e=>hTM (e ▸ hk)),hk⟩;exact⟨hk.keep hb.size hkk,D,hp.keep hb.size hkk⟩
 have hsize:∀(j:Nat) (x:TrV),L[j]?=some x→Tr.sizes x.1.ks≤1000:=fun j x h=>by
  have h2:l[j]?=some x.1:=by rw[←hLl,F5,h];rfl
  have:=Tr.sizes_at h2
  have:=(Pr.sizes_of_size (a:=x.1) (n:=1000) (by omega)).2
  omega
 have hfst:∀(j:Nat) (x:TrV),L[j]?=some x→l[j]?=some x.1:=fun j x h=>by rw[←hLl,F5,h];rfl
 have HH:=J1 hHang;have HZ:=J1 hsize;have HF:=J1 hfst;have HLL:=J1 hlen;have IH:=J1 ih;have HT:=J1 hT;have HTM:=J1 hTM;have HTP:=J1 hTP;have HE:=J1 he;obtain⟨n,hn⟩:∃n,n=l.length:=⟨_,rfl⟩;rw[←hn]at cg hl hlp hln HLL hw1 ⊢;have HN:=J1 hn;have HW:=J1 hw1;have HE1:=J1 he1;have HK1:=J1 hk1;have HS1:=J1 hs1;clear hu ih hsz hn hn0 hL hLl hlen hrd hone hHang hsize hfst hT hTM hTP he he1 hk1 hw1 hs1 lm;go_enter Tryz.func99,Tryz.ntmps99;go_wp2_with fail;rw[←HW.out];refine cg.mono ?_;rintro e w2 ⟨A',c',rfl,hnc,hb2,hor⟩
 obtain⟨g,rfl,hg,hrow1⟩:=hor.resolve_left (by omega)
 have HNC:=J1 hnc
 have HG:=J1 (show w.heap.size≤g by have:=HS1.out;omega)
 have hgl:=J1 hrow1.lt;have HR:=J1 hrow1;have HE2:=J1 (HE1.out.below hb2);have HK2:=J1 (HK1.out.trans (A0f hb2));obtain⟨T1,hT1⟩:∃T1:Nat→Prop,T1=fun k=>T k∨w2.heap.size≤k:=⟨_,rfl⟩;have HT1:=J1 hT1;clear cg hor hrow1 hnc hT1 hg hb2 m0 fm0;go_wp2_with fail
 go_loopw [14] (fun i wr=>∃(q:Nat) (N:List (TrV)),q≤n∧i=.int .i64 q∧Hid (N.length=n∧∀(j:Nat) (x:TrV),N[j]?=some x→(q≤j→L[j]?=some x)∧(j<q→l[j]?=some x.1∧TsOn T1 d wr x.2.1 x.1.ks∧∃D,PsOn T1 D wr x.2.2 x.1.cs))∧Hid (RowLies wr g 26 (trCells N))∧Hid (Keeps (fun k=>k≠M) w wr)∧Hid (ApEnv M P wr)∧Hid (w2.heap.size≤wr.heap.size)) (fun i _=>n-(intOf i).toNat)
 case atStart=>exact⟨0,L,E3 _,rfl,J1 ⟨HLL.out,fun j x h=>⟨fun _=>h,fun hj=>by omega⟩⟩,HR,HK2,HE2,J1 (C3 _)⟩
 case round =>
  obtain⟨q,N,hq,rfl,hN,hrow,hk,hen,hsz2⟩:=hrel
  by_cases hlt:q<n
  ·obtain⟨⟨x,xu,xv⟩,hNx⟩:∃x,N[q]?=some x:=⟨N[q]'(by have:=hN.out.1;omega),A8 _⟩
   have hLx:=(hN.out.2 q _ hNx).1 (C3 _);have hcell:=hrow.out.tr hNx;obtain⟨hk1,hp1⟩:=HH.out wr hk.out q _ hLx;obtain⟨A2,c2,hA2,_⟩:=hk1.at_.form;change xu=.slice A2 x.ks.length c2 at hA2;subst hA2;have cs:=fun(W:World) (h:Below wr wr W)=>IH.out d (Nat.lt_succ_self d) x.ks _ W (hen.out.below h) (fun k hk2=>C9 (HT.out k hk2) (D5 hk.out.size h.size)) HTM.out HTP.out (hk1.keep h.size fun k hk2 hlt=>⟨h.block k hlt,hk2⟩) (HZ.out q _ hLx);have hfst:=HF.out q _ hLx;have HFX:=J1 hfst;have HNX:=J1 hNx;have HP1:=J1 hp1;have CS:=J1 cs;have x2:=hcell.c2;have hpc:=hen.out.p;dsimp only at x2
   have hgM:g≠M:=by have:=HE.out.ltm;have:=HG.out;omega
   have hgr:=hrow.out.lt
   go_upto_region 6 with(fail)
   clear hcell hk1 hfst hLx hNx hp1 cs
   go_region_with (first
    | (go_at_call 99;(with_reducible refine(CS.out _ (by repeat first | exact Below.refl _ _ | refine Below.drew ?_)).mono ?_);rintro e w5 ⟨r5,rfl,hnu,hkn,hen5⟩;obtain⟨B5,c5,hB5,_⟩:=hnu.at_.form;subst hB5;have hr5:=hrow.out.block (w':=w5) (hkn.same g hgr hgM);have z2:=(hr5.tr HNX.out).c2;have f2:=hr5.free (q*5+2);dsimp only at z2))
   all_goals
    have hkn2:Keeps (fun k=>k≠M) wr w5:=⟨hkn.os,hkn.tape,hkn.output,hkn.size,hkn.same⟩;have hnu2:TsOn (fun k=>T k∨wr.heap.size≤k) d w5 (.slice B5 x.ks.length c5) x.ks:=hnu
    have hlen2:q<N.length:=by have:=hN.out.1;omega
    obtain⟨u1,u2,u3⟩:=A22 HNX.out (.slice B5 x.ks.length c5);obtain⟨W6,hW6⟩:∃W6,W6=w5.setCell ⟨g,q*5+2,none⟩ (.slice B5 x.ks.length c5):=⟨_,rfl⟩;rw[←hW6]
    have hs6:W6.heap.size=w5.heap.size:=by rw[hW6];simp[World.setCell]
    have ho6:∀k,k≠g→W6.heap[k]?=w5.heap[k]?:=fun k hk=>by rw[hW6];exact Below.heap_setCell _ _ _ _ hk
    have hrow6:RowLies W6 g 26 (trCells (N.set q (x,.slice B5 x.ks.length c5,xv))):=by
     rw[hW6]
     exact RowLies.sets (ys:=[.slice B5 x.ks.length c5]) (o:=q*5+2) hr5 u1 (by rw[M7];simp;omega) u2 (fun i hi=>by
      obtain rfl:i=0:=by simpa using hi
      exact u3)
    have hk6:Keeps (fun k=>k≠M) w W6:=by rw[hW6];exact(hk.out.trans hkn2).setCell _ (.inr HG.out)
    have hen6:ApEnv M P W6:=hen5.keep (ho6 M (fun e=>hgM e.symm)) (ho6 P (fun e=>by have:=HE.out.ltp;have:=HG.out;omega))
    have hsz6:w2.heap.size≤W6.heap.size:=by have:=hsz2.out;have:=hkn2.size;omega
    have hTk:∀k,T1 k→k≠g∧k≠M:=fun k h=>by
     have hgl2:=hgl.out;have hg2:=HG.out;have hm2:=HE.out.ltm;rw[HT1.out]at h
     rcases h with h | h
     ·have:=HT.out k h
      exact⟨by omega,fun e=>HTM.out (e ▸ h)⟩
     ·have:=hk.out.size;have:=HK2.out.size
      exact⟨by omega,by omega⟩
    have hM6:(N.set q (x,.slice B5 x.ks.length c5,xv)).length=n∧∀(j:Nat) (z:TrV),(N.set q (x,.slice B5 x.ks.length c5,xv))[j]?=some z→(q+1≤j→L[j]?=some z)∧(j<q+1→l[j]?=some z.1∧TsOn T1 d W6 z.2.1 z.1.ks∧∃D,PsOn T1 D W6 z.2.2 z.1.cs):=by
     refine⟨by rw[List.length_set];exact hN.out.1,fun j z hz=>?_⟩
     by_cases hj:j=q
     ·subst hj;rw[List.getElem?_set_self hlen2]at hz;cases hz
      refine⟨fun h=>by omega,fun _=>⟨HFX.out,?_,?_⟩⟩
      ·refine hnu2.keep (by omega) fun k hk2 hlt2=>?_
       have ht:T1 k:=by
        rw[HT1.out]
        rcases hk2 with h | h
        ·exact .inl h
        ·exact .inr (D5 hsz2.out h)
       exact⟨ho6 k (hTk k ht).1,ht⟩
      ·obtain⟨D,hp⟩:=HP1.out
       refine⟨D,hp.keep (by have:=hkn2.size;omega) fun k hk2 hlt2=>?_⟩
       have ht:T1 k:=by rw[HT1.out];exact .inl hk2
       exact⟨(ho6 k (hTk k ht).1).trans (hkn2.same k hlt2 (hTk k ht).2),ht⟩
     ·rw[List.getElem?_set_ne (fun e=>hj e.symm)]at hz;obtain⟨h1,h2⟩:=hN.out.2 j z hz
      refine⟨fun h=>h1 (by omega),fun h=>?_⟩
      obtain⟨h3,h4,D,h5⟩:=h2 (by omega)
      have hkk:∀k,T1 k→k<wr.heap.size→W6.heap[k]?=wr.heap[k]?∧T1 k:=fun k ht hlt2=>⟨(ho6 k (hTk k ht).1).trans (hkn2.same k hlt2 (hTk k ht).2),ht⟩
      exact⟨h3,h4.keep (by have:=hkn2.size;omega) hkk,D,h5.keep (by have:=hkn2.size;omega) hkk⟩
    have HM6:=J1 hM6;have HR6:=J1 hrow6;have HK6:=J1 hk6;have HE6:=J1 hen6;have HS6:=J1 hsz6;clear hkn hkn2 hnu hnu2 hlen2 u1 u2 u3 hW6 hs6 ho6 hrow6 hk6 hen6 hsz6 hTk hM6 hr5 z2 f2 hen5 x2 hpc;go_wp2_with fail
    go_roundw
    case rel=>exact⟨q+1,_,by omega,by go_num,HM6,HR6,HK6,HE6,HS6⟩
    case measure=>simp[intOf];omega
  ·obtain rfl:q=n:=by omega
   have hgl2:=hgl.out
   have hres:TsOn (fun k=>T k∨w.heap.size≤k) (d+1) wr (.slice (some ⟨g,0,none⟩) q c') l:=by
    refine⟨_,c',by rw[HN.out],⟨by have:=HN.out;omega,by rw[←HN.out];exact HNC.out⟩,fun j a ha=>?_⟩
    have hj:j<q:=by rw[HN.out];exact(D8.1 ha).1
    obtain⟨x,hx⟩:∃x,N[j]?=some x:=⟨N[j]'(by have:=hN.out.1;omega),A8 _⟩
    obtain⟨h1,h2,D,h3⟩:=(hN.out.2 j x hx).2 hj;rw[ha]at h1;cases h1
    have hlow:∀k,T1 k→k<wr.heap.size→wr.heap[k]?=wr.heap[k]?∧(T k∨w.heap.size≤k):=fun k hk2 _=>⟨rfl,by
     rw[HT1.out]at hk2
     rcases hk2 with h | h
     ·exact .inl h
     ·exact .inr (D5 HK2.out.size h)⟩
    exact⟨g,0,none,_,_,rfl,.inr HG.out,hrow.out.lt,by rw[S5];exact hrow.out.tr hx,⟨D,h3.keep (C3 _) hlow⟩,h2.keep (C3 _) hlow⟩
   have HRES:=J1 hres;clear hres hN hrow hgl2;go_wp2_with fail;go_ret;exact⟨_,rfl,HRES.out,hk.out,hen.out⟩
attribute [local go_sem] Oper.semAt_some
theorem Tr.all_size {a x:Tr} (h:x∈Tr.all a):Tr.size x≤Tr.size a:=by
 revert x
 refine Tr.ind (P:=fun a=>∀{x:Tr},x∈Tr.all a→Tr.size x≤Tr.size a) (fun a ih=>?_) a;intro x h;rw[Tr.all_at,G3,G4]at h
 rcases h with h | rfl
 ·have key:∀l:List Tr,(∀b∈l,∀{x:Tr},x∈Tr.all b→Tr.size x≤Tr.size b)→x∈Tr.alls l→Tr.size x≤Tr.sizes l:=by
   intro l
   induction l with
   | nil=>intro _ h;rw[Tr.alls]at h;simp at h
   | cons b r ih2 =>
    intro hl h;rw[Tr.alls,G3]at h;rw[Tr.sizes]
    rcases h with h | h
    ·have:=hl b E9 h;omega
    ·have:=ih2 (fun c hc=>hl c (F7 _ hc)) h;omega
  have:=key a.ks ih h;have h2:=Tr.size_at a;omega
 ·exact C3 _
theorem A4W {W w4:World} {t0 t1 t2 t3:TypeId} {c0 c1 c2 c3:List Value} (h:w4=(((W.alloc (.cells c0.toArray t0)).alloc (.cells c1.toArray t1)).alloc (.cells c2.toArray t2)).alloc (.cells c3.toArray t3)) :
  Lies w4 W.heap.size t0 c0∧Lies w4 (W.heap.size+1) t1 c1∧Lies w4 (W.heap.size+1+1) t2 c2∧Lies w4 (W.heap.size+1+1+1) t3 c3∧Below W W w4∧w4.heap.size=W.heap.size+4:=by
 have l1:=Lies.new (W.alloc (.cells c0.toArray t0)) t1 c1;have l2:=Lies.new ((W.alloc (.cells c0.toArray t0)).alloc (.cells c1.toArray t1)) t2 c2;have l3:=Lies.new (((W.alloc (.cells c0.toArray t0)).alloc (.cells c1.toArray t1)).alloc (.cells c2.toArray t2)) t3 c3;simp only[J2]at l1 l2 l3;rw[h]
 exact⟨((((Lies.new W t0 c0).alloc _).alloc _).alloc _),((l1.alloc _).alloc _),l2.alloc _,l3,(((J6 W _).alloc (by simp) _).alloc (by simp;omega) _).alloc (by simp;omega) _,by simp⟩
def WalkS (B k:Nat):Prop:=k<B∨B+6≤k
def WalkT (B k:Nat):Prop:=k+2<B∨B+6≤k
def WalkR (B:Nat) (O:Nat→Prop) (W:World) (x:Tr) (vs:Array Value):Prop:=∃u v,vs=#[trV (x,u,v)]∧TrOn (fun k=>¬O k∧WalkT B k) W (x,u,v)
theorem A56 (m:Nat) (T:Nat→Prop) (W0:World) (hT:∀k,T k→k<W0.heap.size) (bx:Nat) (a:Tr) (u v:Value) (hon:TrOn T W0 (a,u,v)) (hsz:Tr.size a≤1000) :
  IterR Fence.wide (m+4) Tryz.prog 98 #[.pointer (some ⟨bx,0,none⟩)] WalkR (fun k=>T k∨k=bx) WalkS
   (fun W=>TrCell W ⟨bx,0,none⟩ a u v∧W0.heap.size+2≤W.heap.size∧∀k,T k→k<W0.heap.size→W.heap[k]?=W0.heap[k]?) (Tr.all a):=by
 rintro l J Jx W O ⟨hcell,hsw,hsame⟩ hJ hJx hO hY h0;have hbx:=block_lt_of_cell hcell.c0;have hu:=hon.1;have hv:=hon.2;obtain⟨A,c,hA,hl⟩:=hu.elim fun d h=>h.at_.form;obtain⟨A',c',hA',hl'⟩:=hv.elim fun d h=>h.at_.form;change u=.slice A a.ks.length c at hA;change v=.slice A' a.cs.length c' at hA';subst hA hA';obtain⟨n,hn⟩:∃n,n=a.ks.length:=⟨_,rfl⟩;obtain⟨n',hn'⟩:∃n,n=a.cs.length:=⟨_,rfl⟩;rw[←hn,←hn']at hcell hon;have cw:=fun W=>A1Y a (.slice A n c) (.slice A' n' c') W ⟨_,_,_,rfl⟩ ⟨_,_,_,rfl⟩;have HY:=J1 hY;have HO:=J1 hO;have HJ:=J1 hJ;have HJx:=J1 hJx;have HON:=J1 hon;have HT:=J1 hT;have HSZ:=J1 hsz;have HSW2:=J1 hsw
 have HSW:=J1 (show W0.heap.size≤W.heap.size by omega)
 have HSAME:=J1 hsame;have H0:=J1 h0;have HBX:=J1 hbx;clear hY hO hJ hJx hT hsz hon hu hv hsw hsame h0 hl hl';have p:=fun W2 (h:Below W W W2)=>hcell.below h hbx;have P:=J1 p;clear p hbx hcell hn hn';refine callsIn_of_wp_marks Tryz.func98 rfl trivial ?_ rfl;simp only[Tryz.ntmps98,List.size_toArray,G5,List.length_nil,Nat.reduceAdd,Nat.reduceSub,Array.replicate_succ,Array.replicate_zero,List.push_toArray,List.append_toArray,F1,G8]
 obtain⟨x0,x1,x2,x3,x4⟩:=P.out _ ((((Below.refl _ W).alloc (C3 _) (.cells #[.func (.yield l) #[] #[]] 136)).alloc (by simp) (.cells #[z9] 3)).alloc (by simp;omega) (.cells #[.func (.func 99) #[] #[.pointer (some ⟨W.heap.size+1,0,none⟩),.pointer (some ⟨W.heap.size+1+1,0,none⟩)]] 106))
 simp only[G6]at x0 x1 x2 x3 x4
 gi_wp2_with fail
 refine⟨trivial,(callsIn_wide.2 (cw _)).mono ?_⟩;rintro e w' ⟨rfl,rfl⟩;clear cw x0 x1 x2 x3 x4
 gi_wp2_with fail
 obtain⟨w4,hw4⟩:∃w4,w4=(((W.alloc (Obj.cells #[.func (.yield l) #[] #[]] 136)).alloc (Obj.cells #[z9] 3)).alloc (Obj.cells #[.func (.func 99) #[] #[.pointer (some ⟨W.heap.size+1,0,none⟩),.pointer (some ⟨W.heap.size+1+1,0,none⟩)]] 106)).alloc (Obj.cells #[a.k,a.t,.slice A n c,.slice A' n' c',a.h] 26):=⟨_,rfl⟩;obtain⟨ly,lm,la,lt,hb4,hs4⟩:=A4W (c0:=[.func (.yield l) #[] #[]]) (c1:=[z9]) (c2:=[.func (.func 99) #[] #[.pointer (some ⟨W.heap.size+1,0,none⟩),.pointer (some ⟨W.heap.size+1+1,0,none⟩)]]) (c3:=[a.k,a.t,.slice A n c,.slice A' n' c',a.h]) hw4;rw[←hw4];have htc:TrCell w4 ⟨W.heap.size+1+1+1,0,none⟩ a (.slice A n c) (.slice A' n' c'):=lt.tr
 have henv4:ApEnv (W.heap.size+1) (W.heap.size+1+1) w4:=⟨⟨_,_,lm⟩,la.c 0 rfl,by omega⟩
 have hy4:w4.cell? ⟨W.heap.size,0,none⟩=some (.func (.yield l) #[] #[]):=ly.c 0 rfl;clear hw4 ly lm la;have hkw4:∀S,Keeps S W w4:=fun S=>A0f hb4;have hno:∀{pre O' W'},J pre O' W'→∀k,O' k→k<W'.heap.size∧¬(T k∨k=bx):=fun h=>HO.out _ _ _ h
 have hnewO:∀k,W.heap.size≤k→¬O k:=fun k hk h=>by have:=(hno H0.out k h).1;omega
 -- what holds between two rounds
 let Fx:(Nat→Prop)→World→Prop:=fun O0 W'=>(∀k,T k→W'.heap[k]?=W0.heap[k]?)∧W'.cell? ⟨W.heap.size,0,none⟩=some (.func (.yield l) #[] #[])∧ApEnv (W.heap.size+1) (W.heap.size+1+1) W'∧W.heap.size+4≤W'.heap.size∧∀k,(T k∨(W.heap.size≤k∧k<W.heap.size+6))→¬O0 k
 let I:List TrV→(Nat→Prop)→World→Prop:=fun pre O' W'=>∃O0,(∀k,O' k↔(O0 k∨k=W.heap.size+1))∧J (pre.map (·.1)) O0 W'∧Fx O0 W'
 let Ix:Code→List TrV→(Nat→Prop)→World→Prop:=fun c pre O' W'=>c=.ret∧∃O0,(∀k,O' k↔(O0 k∨k=W.heap.size+1))∧(∃p,p <+: Tr.all a∧Jx p O0 W')
 have hTlt:∀k,T k→k<W.heap.size:=fun k h=>C9 (HT.out k h) HSW.out
 have hTlt2:∀k,T k→k+2<W.heap.size:=fun k h=>by have:=HT.out k h;have:=HSW2.out;omega
 have hFlow:∀{O0 O3:Nat→Prop} {A B:World},Fx O0 A→A.heap.size≤B.heap.size→(∀k,T k∨(W.heap.size≤k∧k<W.heap.size+4)→k<A.heap.size→B.heap[k]?=A.heap[k]?)→(∀k,k<W.heap.size+6→O3 k→O0 k)→Fx O3 B:=fun⟨f1,f2,f3,f4,f5⟩ hs hk ho =>
  ⟨fun k h=>(hk k (.inl h) (by have:=hTlt k h;omega)).trans (f1 k h),(World.cell?_of_block (a:=⟨W.heap.size,0,none⟩) (hk W.heap.size (.inr ⟨C3 _,by omega⟩) (by omega))).trans f2,f3.keep (hk _ (.inr ⟨by omega,by omega⟩) (by omega)) (hk _ (.inr ⟨by omega,by omega⟩) (by omega)),by omega,
   fun k h h2=>f5 k h (ho k (by rcases h with h | h;have:=hTlt k h;omega;omega) h2)⟩
 have hFk:∀{O0:Nat→Prop} {A B:World},Fx O0 A→Keeps (fun k=>True∧k≠w4.heap.size∧k≠w4.heap.size+1) A B→Fx O0 B:=fun hF hk =>
  hFlow hF hk.size (fun k h hlt=>hk.same k hlt ⟨trivial,by rcases h with h | h;have:=hTlt k h;omega;omega,by rcases h with h | h;have:=hTlt k h;omega;omega⟩) fun _ _ h=>h
 have hF0:Fx O w4:=⟨fun k h=>(hb4.block k (hTlt k h)).trans (HSAME.out k h (HT.out k h)),hy4,henv4,by omega,fun k h h2=>by
  rcases h with h | h
  ·exact(hno H0.out k h2).2 (.inl h)
  ·exact hnewO k h.1 h2⟩
 refine Z8 rfl (by omega) (gf:=118) (lb:=#[.pointer (some ⟨W.heap.size+1+1+1,0,none⟩)]) rfl trivial (enters_of Tryz.func118 (by kernel_rfl) rfl)
  (A1h (m+2) T W0 HT.out (W.heap.size+1+1+1) a (.slice A n c) (.slice A' n' c') HON.out) ?hpre ?hC ?hps ?hR I Ix ?hI ?hIx ?hSD ?hIO (fun k=>O k∨k=W.heap.size+1) ?hO ?h0
  (fun B0 O1 W3 x _ a'=>∃q,W.heap.size+6≤q∧B0≤q∧Lies W3 q 26 [x.1.k,x.1.t,x.2.1,x.2.2,x.1.h]∧a'={ tmps:=#[.func (.yield l) #[] #[],.pointer (some ⟨bx,0,none⟩),.pointer (some ⟨W.heap.size,0,none⟩),.pointer (some ⟨W.heap.size+1,0,none⟩),.pointer (some ⟨W.heap.size+1+1,0,none⟩),.pointer (some ⟨q,0,none⟩),.func (.func 99) #[] #[.pointer (some ⟨W.heap.size+1,0,none⟩),.pointer (some ⟨W.heap.size+1+1,0,none⟩)],.agg #[a.k,a.t,.slice A n c,.slice A' n' c',a.h],.func (.func 118) #[] #[.pointer (some ⟨W.heap.size+1+1+1,0,none⟩)],trV x,undef,undef,undef,undef,undef,undef,undef,undef,undef,undef,undef],defers:=[] })
  ?hAx ?assign ?body ?done ?stop
 case hpre=>exact fun W3 hb _=>⟨htc.below hb (by show W.heap.size+1+1+1<w4.heap.size;omega),D5 HSW.out (D5 hb4.size hb.size),fun k hk hlt=>(hb.block k (by have:=hTlt k hk;omega)).trans ((hb4.block k (hTlt k hk)).trans (HSAME.out k hk hlt))⟩
 case hC =>
  intro k hk
  rcases hk with hk | hk
  ·have:=hTlt k hk;omega
  ·omega
 case hps=>rintro B O W x vs ⟨rfl,_⟩;rfl
 case hR=>intro O O' W W' x vs _ _ _ h;exact h
 case hI =>
  rintro pre O1 A B ⟨O0,he,hj,hF⟩ hk;refine⟨O0,he,HJ.out _ _ _ _ hj (hk.mono fun k hh=>?_),hFk hF (hk.mono fun k hh=>.inr hh)⟩
  rcases hh with hh | hh
  ·exact .inl ((he k).2 (.inl hh))
  ·exact .inr ⟨trivial,by rcases hh with hh | hh <;> omega,by rcases hh with hh | hh <;> omega⟩
 case hIx =>
  rintro c pre O1 A B ⟨hc,O0,he,p,hp,hj⟩ hk;refine⟨hc,O0,he,p,hp,HJx.out _ _ _ _ hj (hk.mono fun k hh=>?_)⟩
  rcases hh with hh | hh
  ·exact .inl ((he k).2 (.inl hh))
  ·exact .inr ⟨trivial,by rcases hh with hh | hh <;> omega,by rcases hh with hh | hh <;> omega⟩
 case hSD=>intro k _;trivial
 case hIO =>
  rintro pre O1 A ⟨O0,he,hj,hF⟩ k hk
  rcases(he k).1 hk with h | h
  ·exact⟨(hno hj k h).1,fun hc=>by
    rcases hc with hc | hc
    ·exact hF.2.2.2.2 k (.inl hc) h
    ·exact hF.2.2.2.2 k (.inr ⟨by omega,by omega⟩) h⟩
  ·exact⟨by have:=hF.2.2.2.1;omega,fun hc=>by
    rcases hc with hc | hc
    ·have:=hTlt k hc;omega
    ·omega⟩
 case hO =>
  intro k hk
  rcases hk with h | h
  ·have:=(hno H0.out k h).1;omega
  ·omega
 case h0=>exact⟨O,fun _=>Iff.rfl,HJ.out _ _ _ _ H0.out (hkw4 _),hF0⟩
 case hAx =>
  rintro B0 O1 A B x vs a' hk ⟨q,h1,h2,h3,h4⟩
  exact⟨q,h1,h2,(hk.same q h3.lt (by omega)).trans h3,h4⟩
 case assign =>
  rintro l2 ⟨x,xu,xv⟩ vs O3 W3 K hs hOl ⟨rfl,hx⟩ hK;obtain⟨⟨d1,hx1⟩,d2,hx2⟩:=hx;obtain⟨B1,e1,hB1,_⟩:=hx1.at_.form;obtain⟨B2,e2,hB2,_⟩:=hx2.at_.form;change xu=.slice B1 x.ks.length e1 at hB1;change xv=.slice B2 x.cs.length e2 at hB2;subst hB1 hB2
  rw[show(#[9]:Array Tmp).zip #[trV (x,.slice B1 x.ks.length e1,.slice B2 x.cs.length e2)]=#[(9,trV (x,.slice B1 x.ks.length e1,.slice B2 x.cs.length e2))] from by simp[List.zip_toArray]]
  have htb:=Lies.new W3 26 [x.k,x.t,.slice B1 x.ks.length e1,.slice B2 x.cs.length e2,x.h];have HK:=J1 hK;have HTB:=J1 htb
  have hs6:W.heap.size+6≤W3.heap.size:=by omega
  clear hx1 hx2 hK htb
  gi_wp2
  exact HK.out _ _ (Keeps.alloc _ _ _) ⟨W3.heap.size,hs6,C3 _,HTB.out,rfl⟩
 case body =>
  rintro Wy l2 pre ⟨x,xu,xv⟩ vs O1 Wb a' hl2 hiy hib hpx ⟨rfl,hrx⟩ hOy hsy hkn ⟨q,hq6,hqy,lq,rfl⟩;obtain⟨O0,he,hjy,hFy⟩:=hiy;obtain⟨O0',he',hjb,hFb⟩:=hib
  have hM:∀{O2:Nat→Prop} {A:World},Fx O2 A→¬O2 (W.heap.size+1):=fun hF=>hF.2.2.2.2 _ (.inr ⟨by omega,by omega⟩)
  obtain rfl:O0=O0':=funext fun k=>propext ⟨fun h=>((he' k).1 ((he k).2 (.inl h))).resolve_right (fun e=>hM hFy (e ▸ h)),fun h=>((he k).1 ((he' k).2 (.inl h))).resolve_right (fun e=>hM hFb (e ▸ h))⟩;have hsb:=hkn.size
  have hx0:=hrx.keep (T':=T) (w':=Wb) (by have:=hFb.2.2.2.1;have:=HSW.out;omega) (fun k hk _=>⟨hFb.1 k hk,hk⟩)
  obtain⟨⟨d1,hx1⟩,d2,hx2⟩:=hx0;obtain⟨B1,e1,hB1,_⟩:=hx1.at_.form;obtain⟨B2,e2,hB2,_⟩:=hx2.at_.form;change xu=.slice B1 x.ks.length e1 at hB1;change xv=.slice B2 x.cs.length e2 at hB2;subst hB1 hB2
  have hpm:pre.map (·.1)++[x] <+: Tr.all a:=by
   have:=hpx.map (·.1)
   rwa[List.map_append,Tr.flat_fst]at this
  have hxs:Tr.size x≤1000:=D5 (Tr.all_size (a:=a) (hpm.subset (by simp))) HSZ.out
  have hqb:=lq.lt;obtain⟨tm,im,lm⟩:=hFb.2.2.1.m;have m0:=lm.c 0 rfl
  -- what the yield gives, in a world that differs from the body's by what the closure counts, and by the tree's own box
  have hyld:∀(W8:World) (r:Value),Keeps (fun k=>k≠W.heap.size+1∧k≠q) Wb W8→ApEnv (W.heap.size+1) (W.heap.size+1+1) W8→TsOn (fun k=>T k∨Wb.heap.size≤k) d1 W8 r x.ks →
    YieldAt Fence.wide (m+4-1) Tryz.prog l #[trV (x,r,.slice B2 x.cs.length e2)] W8 (fun e W'=>(e=.returned (.bool true)∧∃O',I (pre++[(x,.slice B1 x.ks.length e1,.slice B2 x.cs.length e2)]) O' W'∧ChgFrom Wy.heap.size O1 Wb O' W')∨(e=.returned (.bool false)∧∃O',Ix .ret (pre++[(x,.slice B1 x.ks.length e1,.slice B2 x.cs.length e2)]) O' W'∧ChgFrom Wy.heap.size O1 Wb O' W')):=by
   intro W8 r hk8 he8 hr8;have hs8:=hk8.size
   have hTq:∀k,T k→k≠W.heap.size+1∧k≠q:=fun k h=>by have:=hTlt k h;exact⟨by omega,by omega⟩
   have hT8:∀k,T k→W8.heap[k]?=Wb.heap[k]?:=fun k h=>hk8.same k (by have:=hTlt k h;have:=hFb.2.2.2.1;omega) (hTq k h)
   have hF8:Fx O0 W8:=⟨fun k h=>(hT8 k h).trans (hFb.1 k h),(World.cell?_of_block (a:=⟨W.heap.size,0,none⟩) (hk8.same W.heap.size (by have:=hFb.2.2.2.1;omega) ⟨by omega,by omega⟩)).trans hFb.2.1,he8,by have:=hFb.2.2.2.1;omega,hFb.2.2.2.2⟩
   have hO6:∀k,O0 k→¬(W.heap.size≤k∧k<W.heap.size+6):=fun k h h2=>hFy.2.2.2.2 k (.inr h2) h
   have hj8:J (pre.map (·.1)) O0 W8:=HJ.out _ _ _ _ hjy ⟨hk8.os.trans hkn.os,hk8.tape.trans hkn.tape,hk8.output.trans hkn.output,D5 hsb hs8,fun k hk hs=>by
    have hne:k≠W.heap.size+1∧k≠w4.heap.size+1:=by
     rcases hs with h | h
     ·have:=hO6 k h;exact⟨by omega,by omega⟩
     ·rcases h with h | h
      ·exact⟨by omega,by omega⟩
      ·exact⟨by omega,by omega⟩
    exact(hk8.same k (by omega) ⟨hne.1,by omega⟩).trans (hkn.same k hk hne.2)⟩
   have hR8:WalkR W.heap.size O0 W8 x #[trV (x,r,.slice B2 x.cs.length e2)]:=by
    refine⟨r,_,rfl,⟨d1,hr8.keep (C3 _) fun k hk _=>⟨rfl,?_⟩⟩,d2,hx2.keep hs8 fun k hk _=>⟨hT8 k hk,fun h=>hFy.2.2.2.2 k (.inl hk) h,.inl (hTlt2 k hk)⟩⟩
    rcases hk with h | h
    ·exact⟨fun h2=>hFy.2.2.2.2 k (.inl h) h2,.inl (hTlt2 k h)⟩
    ·exact⟨fun h2=>by have:=(hno hjy k h2).1;omega,.inr (by omega)⟩
   obtain⟨fn,tmps,assign,body,hy,hR⟩:=HY.out _ _ _ _ _ hj8 hpm hR8;refine⟨fn,tmps,assign,body,hy,hR.mono ?_⟩
   have hfin:∀{O3:Nat→Prop} {W9:World},Chg O0 W8 O3 W9→ChgFrom Wy.heap.size O1 Wb (fun k=>O3 k∨k=W.heap.size+1) W9:=fun {O3 W9} hc =>
    ⟨⟨hc.keeps.os.trans hk8.os,hc.keeps.tape.trans hk8.tape,hc.keeps.output.trans hk8.output,D5 hs8 hc.keeps.size,fun k hk hn =>
     (hc.keeps.same k (by omega) (fun h=>hn.1 ((he k).2 (.inl h)))).trans (hk8.same k hk ⟨fun e=>hn.1 ((he k).2 (.inr e)),by have:=hn.2;omega⟩)⟩,fun k hk h=>by
     rcases h with h | h
     ·exact(he k).2 (.inl (hc.own k (by omega) h))
     ·exact(he k).2 (.inr h)⟩
   rintro e W9 (⟨rfl,O3,hj3,hc⟩ | ⟨rfl,O3,hj3,hc⟩)
   ·refine .inl ⟨rfl,_,⟨O3,fun _=>Iff.rfl,by rw[List.map_append];exact hj3,hFlow hF8 hc.keeps.size (fun k h hlt=>hc.keeps.same k hlt (hF8.2.2.2.2 k (h.imp id fun h=>⟨h.1,by omega⟩))) (fun k hk h3=>hc.own k (by omega) h3)⟩,hfin hc⟩
   ·exact .inr ⟨rfl,_,⟨rfl,O3,fun _=>Iff.rfl,_,hpm,hj3⟩,hfin hc⟩
  have HYL:=J1 hyld;have henvb:=hFb.2.2.1;have hpc:=henvb.p;have hyb:=hFb.2.1
  have hTb:∀k,T k→k<Wb.heap.size:=fun k h=>by have:=hTlt k h;have:=hFb.2.2.2.1;omega
  have hTM:¬T (W.heap.size+1):=fun h=>by have:=hTlt _ h;omega
  have hTP:¬T (W.heap.size+1+1):=fun h=>by have:=hTlt _ h;omega
  have hks:Tr.sizes x.ks≤1000:=(Pr.sizes_of_size hxs).2;have q0:=lq.c 0 rfl;have q1:=lq.c 1 rfl;have q2:=lq.c 2 rfl;have q3:=lq.c 3 rfl;have q4:=lq.c 4 rfl;have HLQ:=J1 lq;have HX1:=J1 hx1;have HE:=J1 henvb;have HYB:=J1 hyb
  have hq6':W.heap.size≠q∧W.heap.size+1≠q∧W.heap.size+1+1≠q:=⟨by omega,by omega,by omega⟩
  have hqM:q≠W.heap.size+1:=by omega
  have hBl:W.heap.size<Wb.heap.size:=by omega
  clear hyld hFb hFy hjy hjb he he' hM hrx hx1 hx2 hpx hpm hxs hsb hOy hsy hkn hqy hF0 lm lq
  by_cases hm:im<33554432
  ·have cs:=A8O (W.heap.size+1) (W.heap.size+1+1) T d1 x.ks (.slice B1 x.ks.length e1) Wb henvb hTb hTM hTP HX1.out hks;have CS:=J1 cs;clear cs henvb hTb hTM hTP hks
   gi_wp2
   refine⟨trivial,(CallsIn.inRound l2 (callsIn_wide.2 CS.out)).mono ?_⟩;rintro e W7 ⟨r,rfl,hr,hk7,he7⟩;obtain⟨B7,c7,hB7,_⟩:=hr.at_.form;subst hB7;have lq7:Lies W7 q 26 [x.k,x.t,.slice B1 x.ks.length e1,.slice B2 x.cs.length e2,x.h]:=(hk7.same q hqb hqM).trans HLQ.out;have z2:=lq7.c 2 rfl;have f2:=lq7.free 2;obtain⟨W8,hW8⟩:∃W8,W8=W7.setCell ⟨q,2,none⟩ (.slice B7 x.ks.length c7):=⟨_,rfl⟩
   have lq8:Lies W8 q 26 [x.k,x.t,.slice B7 x.ks.length c7,.slice B2 x.cs.length e2,x.h]:=by rw[hW8];exact lq7.set 2 _
   have ho8:∀k,k≠q→W8.heap[k]?=W7.heap[k]?:=fun k hk=>by rw[hW8];exact Below.heap_setCell _ _ _ _ hk
   have he8:ApEnv (W.heap.size+1) (W.heap.size+1+1) W8:=he7.keep (ho8 _ hq6'.2.1) (ho8 _ hq6'.2.2)
   have hk8:Keeps (fun k=>k≠W.heap.size+1∧k≠q) Wb W8:=by rw[hW8];exact(hk7.mono fun k h=>h.1).setCell _ (.inl fun h=>h.2 rfl)
   have hr8:TsOn (fun k=>T k∨Wb.heap.size≤k) d1 W8 (.slice B7 x.ks.length c7) x.ks:=hr.keep (by rw[hW8];simp[World.setCell]) fun k hk _=>⟨ho8 k (by
    rcases hk with h | h
    ·have:=hTlt k h;omega
    ·omega),hk⟩
   have y8:W8.cell? ⟨W.heap.size,0,none⟩=some (.func (.yield l) #[] #[]):=(World.cell?_of_block (a:=⟨W.heap.size,0,none⟩) ((ho8 W.heap.size hq6'.1).trans (hk7.same W.heap.size hBl (by omega)))).trans HYB.out
   obtain⟨fn,tmps,assign,body,hy,hR⟩:=HYL.out W8 _ hk8 he8 hr8;have HR:=J1 (fun b=>A0q (b:=b) (l2:=l2) hR);have w0:=lq8.c 0 rfl;have w1:=lq8.c 1 rfl;have w2:=lq8.c 2 rfl;have w3:=lq8.c 3 rfl;have w5:=lq8.c 4 rfl;clear hR hr hr8 hk8 he8 lq8 lq7 hk7 he7 ho8 q0 q1 q2 q3 q4 m0 hpc hyb;subst hW8
   gi_wp2
   refine(HR.out _).mono ?_;clear y8 w0 w1 w2 w3 w5 z2 f2 HR hy
   rintro e W9 (⟨rfl,O3,hi3,hc3⟩ | ⟨rfl,O3,hi3,hc3⟩)
   ·have HC:=J1 hc3;have HI:=J1 hi3;clear hc3 hi3
    gi_wp2
    exact⟨O3,HI.out,HC.out⟩
   ·have HC:=J1 hc3;have HI:=J1 hi3;clear hc3 hi3
    gi_wp2
    exact⟨O3,HI.out,HC.out⟩
  ·have hr8:TsOn (fun k=>T k∨Wb.heap.size≤k) d1 Wb (.slice B1 x.ks.length e1) x.ks:=HX1.out.keep (C3 _) fun k hk _=>⟨rfl,.inl hk⟩;obtain⟨fn,tmps,assign,body,hy,hR⟩:=HYL.out Wb _ (Keeps.refl _ _) henvb hr8;have HR:=J1 (fun b=>A0q (b:=b) (l2:=l2) hR);clear hR hr8 henvb hTb hTM hTP hks hpc
   gi_wp2
   refine(HR.out _).mono ?_;clear q0 q1 q2 q3 q4 m0 hyb HR hy
   rintro e W9 (⟨rfl,O3,hi3,hc3⟩ | ⟨rfl,O3,hi3,hc3⟩)
   ·have HC:=J1 hc3;have HI:=J1 hi3;clear hc3 hi3
    gi_wp2
    exact⟨O3,HI.out,HC.out⟩
   ·have HC:=J1 hc3;have HI:=J1 hi3;clear hc3 hi3
    gi_wp2
    exact⟨O3,HI.out,HC.out⟩
 case done =>
  rintro D O1 W3 rfl ⟨O0,he,hj,hF⟩ hOD hK
  have hk:Keeps (fun k=>O0 k∨WalkS W.heap.size k) W3 (W3.putObj w4.heap.size (.deferred none)):=Keeps.putObj W3 _ _ (by
   rintro(h | h)
   ·exact hOD ((he _).2 (.inl h))
   ·rcases h with h | h <;> omega)
  have hj3:=HJ.out _ _ _ _ hj hk;rw[Tr.flat_fst]at hj3;have Hj3:=J1 hj3;clear hj hj3 hk hF hF0
  gi_wp2
  refine⟨by simp,.inl ⟨_,_,rfl,run_takeDeferred hK,?_⟩⟩
  exact⟨_,results_none rfl _ _ _,⟨_,rfl⟩,.inl ⟨O0,Hj3.out⟩⟩
 case stop =>
  rintro D c pre O1 W3 rfl hpx ⟨rfl,O0,he,p,hp,hjx⟩ hOD hK
  have hk:Keeps (fun k=>O0 k∨WalkS W.heap.size k) W3 (W3.putObj w4.heap.size (.deferred none)):=Keeps.putObj W3 _ _ (by
   rintro(h | h)
   ·exact hOD ((he _).2 (.inl h))
   ·rcases h with h | h <;> omega)
  have hj3:=HJx.out _ _ _ _ hjx hk;have Hj3:=J1 hj3;clear hjx hj3 hk hF0
  gi_wp2
  refine⟨by simp,.inl ⟨_,_,rfl,run_takeDeferred hK,?_⟩⟩
  exact⟨_,results_none rfl _ _ _,⟨_,rfl⟩,.inr ⟨p,O0,hp,Hj3.out⟩⟩
theorem A7J (a:Tr) (u v:Value) (w:World) (hu:∃d,TsAt d w u a.ks) (hv:PsSome w v a.cs) (hsz:Tr.size a≤1000) :
  Calls Tryz.prog 59 #[.agg #[a.k,a.t,u,v,a.h]] w
   fun e w'=>∃u' v',e=.returned (.func (.func 98) #[] #[.pointer (some ⟨w.heap.size,0,none⟩)])∧TrCell w' ⟨w.heap.size,0,none⟩ a u' v'∧TrOn (fun k=>w.heap.size<k) w' (a,u',v')∧Below w w w':=by
 obtain⟨A,c,rfl,hl⟩:=hu.elim fun d h=>h.form;obtain⟨A',c',rfl,hl'⟩:=hv.elim fun d h=>h.form;obtain⟨W0,hW0⟩:∃W0,W0=w.alloc (Obj.cells #[a.k,a.t,.slice A a.ks.length c,.slice A' a.cs.length c',a.h] 26):=⟨_,rfl⟩;obtain⟨l0,hb0⟩:=L5 (cs:=a.cells (.slice A a.ks.length c) (.slice A' a.cs.length c')) hW0
 have hsz0:=J1 (show w.heap.size<W0.heap.size from l0.lt)
 have cc:=A1n a _ _ W0 (hu.elim fun d h=>⟨d,h.below hb0 (C3 _)⟩) (hv.below hb0 (C3 _)) hsz;have HW:=J1 hW0;have HL:=J1 l0;obtain⟨x0,x1,x2,x3,x4⟩:=l0.tr;simp only[G6]at x0 x1 x2 x3 x4;rw[HW.out]at x0 x1 x2 x3 x4;clear hu hv hsz hW0 l0;go_enter Tryz.func59,Tryz.ntmps59;go_wp2_with fail;rw[←HW.out];refine cc.mono ?_;rintro e w2 ⟨u2,v2,rfl,hon,hb2⟩;obtain⟨B2,c2,hB2,_⟩:=hon.1.elim fun d h=>h.at_.form;obtain⟨B4,c4,hB4,_⟩:=hon.2.elim fun d h=>h.at_.form;change u2=.slice B2 a.ks.length c2 at hB2;change v2=.slice B4 a.cs.length c4 at hB4;subst hB2 hB4;clear cc x0 x1 x2 x3 x4;have l2:=HL.out.below hb2 hsz0.out;obtain⟨z0,z1,z2,z3,z4⟩:=l2.tr;simp only[G6]at z0 z1 z2 z3 z4;have f0:=l2.free 0;have f1:=l2.free 1;have f2:=l2.free 2;have f3:=l2.free 3;have f4:=l2.free 4;have HL2:=J1 l2;have HON:=J1 hon;have HB:=J1 (J5 hb0 hb2);clear l2 hon hb2 hb0;go_wp2_with fail;obtain⟨W6,hW6⟩:∃W6,W6=setCells w2 w.heap.size 0 [a.k,a.t,.slice B2 a.ks.length c2,.slice B4 a.cs.length c4,a.h]:=⟨_,rfl⟩;simp only[setCells]at hW6;rw[←hW6];change W6=setCells w2 w.heap.size 0 [a.k,a.t,.slice B2 a.ks.length c2,.slice B4 a.cs.length c4,a.h]at hW6
 have q6:Lies W6 w.heap.size 26 (a.cells (.slice B2 a.ks.length c2) (.slice B4 a.cs.length c4)):=by rw[hW6];exact HL2.out.sets _ 0
 have hon6:TrOn (fun k=>w.heap.size<k) W6 (a,.slice B2 a.ks.length c2,.slice B4 a.cs.length c4):=HON.out.keep (by rw[hW6,N0];exact C3 _) fun k hk hlt=>⟨by rw[hW6,M6 _ _ (by have:=hsz0.out;omega)],by have:=hsz0.out;omega⟩
 have hb6:Below w w W6:=by rw[hW6];exact Below.sets (C3 _) _ _ HB.out
 clear z0 z1 z2 z3 z4 f0 f1 f2 f3 f4 hW6;go_ret;exact⟨_,_,rfl,q6.tr,hon6,hb6⟩
theorem TsOn.two {T:Nat→Prop} {w:World} {g:Nat} (ht:T g) (hg:g<w.heap.size) (t0:TrCell w ⟨g,0,none⟩ (leafTr 0) (.slice none 0 0) (.slice none 0 0)) (t1:TrCell w ⟨g,5,none⟩ (leafTr 1) (.slice none 0 0) (.slice none 0 0)) :
  TsOn T 2 w (.slice (some ⟨g,0,none⟩) 2 2) [leafTr 0,leafTr 1]:=by
 have hn:TsOn T 1 w (.slice none 0 0) []:=⟨none,0,rfl,by simp,fun j a h=>by simp at h⟩
 have hp:∃e,PsOn T e w (.slice none 0 0) []:=⟨0,rfl,none,0,rfl⟩
 refine⟨some ⟨g,0,none⟩,2,rfl,by simp,fun j a hj=>?_⟩
 match j,hj with
 | 0,hj =>
  cases hj
  exact⟨g,0,none,_,_,rfl,ht,hg,by simpa[Addr.add]using t0,hp,hn⟩
 | 1,hj =>
  cases hj
  exact⟨g,0,none,_,_,rfl,ht,hg,by simpa[Addr.add]using t1,hp,hn⟩
theorem PsOn.oneRow {T:Nat→Prop} {w:World} {g:Nat} {f:Pf} (ht:T g) (hg:g<w.heap.size) (h:PdCell w ⟨g,0,none⟩ f (.slice none 0 0)):PsOn T 1 w (.slice (some ⟨g,0,none⟩) 1 1) [.mk f []]:=by
 refine⟨some ⟨g,0,none⟩,1,rfl,by simp,fun j p hj=>?_⟩
 match j,hj with
 | 0,hj =>
  cases hj
  exact⟨g,0,none,_,rfl,ht,hg,by rw[show(⟨g,0,none⟩:Addr).add (0*14)=⟨g,0,none⟩ by simp[Addr.add]];exact h,rfl,none,0,rfl⟩
theorem A4z (k:Int):Tr.size (twoTr k)≤1000:=by
 unfold twoTr leafTr A9E
 simp[Tr.size,Tr.sizes,Pr.sizes,Pr.size]
theorem A1j (k:Int) (w:World) :
  Calls Tryz.prog 20 #[k] w
   fun e w'=>∃u v,e=.returned (.agg #[k,z9,u,v,false])∧TrHang w' (twoTr k,u,v)∧Below w w w':=by
 obtain⟨W0,hW0⟩:∃W0,W0=w.alloc (Obj.cells #[z9,z9,(),(),false] 26):=⟨_,rfl⟩;obtain⟨q0,hb0⟩:=L5 (cs:=[z9,z9,(),(),false]) hW0;have HQ:=J1 q0;have HW:=J1 hW0
 have hsz0:=J1 (show w.heap.size<W0.heap.size by rw[hW0];simp)
 clear hW0 q0;go_enter Tryz.func20,Tryz.ntmps20
 go_wp2_with (go_at_call 22;refine(A0R 0 _).mono ?_)
 rintro e w1 ⟨rfl,hb1⟩;rw[←HW.out]at hb1
 go_wp2_with (go_at_call 22;refine(A0R 1 _).mono ?_)
 rintro e w2 ⟨rfl,hb2⟩;have hb02:=J5 hb1 hb2;clear hb1 hb2
 go_wp2_with (go_at_call 23;refine(A2m 0 1 _).mono ?_)
 rintro e w3 ⟨rfl,hb3⟩;have hb03:=J5 hb02 hb3;clear hb02 hb3
 go_wp2_with (go_at_call 21;refine(A4L k (leafTr 0,(),.slice none 0 0) (leafTr 1,(),.slice none 0 0) _ 1 1 _).mono ?_)
 obtain⟨W4,hW4⟩:∃W4,W4=w3.alloc (Obj.cells #[.int .i64 2,z9,.int .i64 1,.int .i64 1,z9,z9,false,z9,.int .i64 1,.int .i64 1,z9,false,z9,()] 57):=⟨_,rfl⟩;obtain⟨lp,hb4⟩:=L5 (cs:=[.int .i64 2,z9,.int .i64 1,.int .i64 1,z9,z9,false,z9,.int .i64 1,.int .i64 1,z9,false,z9,()]) hW4;rw[←hW4]
 have hps:PsOn (fun k=>w.heap.size<k) 1 W4 (.slice (some ⟨w3.heap.size,0,none⟩) 1 1) [A9E]:=PsOn.oneRow (f:=(⟨2,0,1,⟨1,0,0,false,0⟩,⟨1,1,0,false,0⟩⟩:Pf)) (by have:=hb03.size;have:=hsz0.out;omega) lp.lt lp.pd
 have hb04:=J5 hb03 hb4;have HP:=J1 hps;have HB:=J1 hb04;clear hb03 hps hb4 lp hW4 hb04;rintro e w5 ⟨g,rfl,hg1,hg2,t0,t1,hb5⟩
 have hts:=J1 (TsOn.two (T:=fun k=>w.heap.size<k) (by have:=HB.out.size;have:=hsz0.out;omega) hg2 t0 t1)
 have hps5:=J1 (HP.out.keep (T':=fun k=>w.heap.size<k) hb5.size fun k hk hlt=>⟨hb5.block k hlt,hk⟩);have hb05:=J5 HB.out hb5;have q5:=HQ.out.below hb05 hsz0.out;have HB5:=J1 (J5 hb0 hb05);have z0:=q5.c 0 rfl;have z1:=q5.c 1 rfl;have z2:=q5.c 2 rfl;have z3:=q5.c 3 rfl;have z4:=q5.c 4 rfl;have f0:=q5.free 0;have f1:=q5.free 1;have f2:=q5.free 2;have f3:=q5.free 3;have f4:=q5.free 4;have HQ5:=J1 q5;clear t0 t1 hb5 hg1 hg2 HP HB hb05 q5 hb0;go_wp2_with fail;obtain⟨W6,hW6⟩:∃W6,W6=setCells w5 w.heap.size 0 [k,z9,.slice (some ⟨g,0,none⟩) 2 2,.slice (some ⟨w3.heap.size,0,none⟩) 1 1,false]:=⟨_,rfl⟩;simp only[setCells]at hW6;rw[←hW6];change W6=setCells w5 w.heap.size 0 [k,z9,.slice (some ⟨g,0,none⟩) 2 2,.slice (some ⟨w3.heap.size,0,none⟩) 1 1,false]at hW6
 have q6:Lies W6 w.heap.size 26 [k,z9,.slice (some ⟨g,0,none⟩) 2 2,.slice (some ⟨w3.heap.size,0,none⟩) 1 1,false]:=by rw[hW6];exact HQ5.out.sets _ 0
 have hs6:W6.heap.size=w5.heap.size:=by rw[hW6,N0]
 have hk6:∀k,w.heap.size<k→W6.heap[k]?=w5.heap[k]?:=fun k hk=>by rw[hW6,M6 _ _ (by omega)]
 have hang:TrHang W6 (twoTr k,.slice (some ⟨g,0,none⟩) 2 2,.slice (some ⟨w3.heap.size,0,none⟩) 1 1) :=
  TrOn.hang (T:=fun k=>w.heap.size<k) ⟨⟨2,hts.out.keep (by omega) fun k hk _=>⟨hk6 k hk,hk⟩⟩,1,hps5.out.keep (by omega) fun k hk _=>⟨hk6 k hk,hk⟩⟩
 have hb6:Below w w W6:=by rw[hW6];exact Below.sets (C3 _) _ _ HB5.out
 have x0:=q6.c 0 rfl;have x1:=q6.c 1 rfl;have x2:=q6.c 2 rfl;have x3:=q6.c 3 rfl;have x4:=q6.c 4 rfl;clear z0 z1 z2 z3 z4 f0 f1 f2 f3 f4 hW6
 exact bodyPost_ret (v:=.agg #[k,z9,.slice (some ⟨g,0,none⟩) 2 2,.slice (some ⟨w3.heap.size,0,none⟩) 1 1,false]) (by simp[results,Tryz.results20,go_sem,x0,x1,x2,x3,x4]) rfl ⟨_,_,rfl,hang,hb6⟩
set_option maxRecDepth 100000
open Go.RowKit Go.WideShapes Go.ChangeShapes Go.Deep
section
variable {H:Type} {enc:TypeId × Value→H} {W:World}
theorem A1Z {n:Nat} {cs:List Value} {y:DataW H × List MemPlace} (h:DataW.trod enc Tryz.prog W 0 (fun _=>true) true n 26 cs=some y) :
  ∃(k t:Int) (b:Bool) (u v:Value) (m:Nat) (z z':DataW H × List MemPlace),cs=[.int .i64 k,.int .i64 t,u,v,.bool b]∧m<n∧DataW.trod enc Tryz.prog W 0 (fun _=>true) true m 23 [u]=some z∧DataW.trod enc Tryz.prog W 0 (fun _=>true) true m 24 [v]=some z':=by
 obtain⟨xs,m,hm,_,hl,hlen,hg⟩:=DataW.trod_struct Tryz.underlying26 h
 match cs,hl.trans (show Tryz.prog.cellsOf 26=5 by kernel_rfl)with
 | [c0,c1,c2,c3,c4],_ =>
  obtain⟨_,_,g0⟩:=N3 hg 0 3 0 1 rfl (by kernel_rfl) hlen
  obtain⟨_,_,g1⟩:=N3 hg 1 3 1 1 rfl (by kernel_rfl) hlen
  obtain⟨z,_,g2⟩:=N3 hg 2 23 2 1 rfl (by kernel_rfl) hlen
  obtain⟨z',_,g3⟩:=N3 hg 3 24 3 1 rfl (by kernel_rfl) hlen
  obtain⟨_,_,g4⟩:=N3 hg 4 4 4 1 rfl (by kernel_rfl) hlen
  obtain⟨k,hk,_,_⟩:=DataW.trod_int Tryz.underlying3 g0;obtain⟨t,ht,_,_⟩:=DataW.trod_int Tryz.underlying3 g1;obtain⟨b,hb,_⟩:=DataW.trod_bool Tryz.underlying4 g4
  simp at hk ht hb
  exact⟨k,t,b,c2,c3,m,z,z',by rw[hk,ht,hb],by omega,g2,g3⟩
theorem A46 (n:Nat):∀(v:Value) (y:DataW H × List MemPlace),DataW.trod enc Tryz.prog W 0 (fun _=>true) true n 23 [v]=some y→∃d ts,TsAt d W v ts:=by
 induction n using Nat.strongRecOn with
 | ind n ih =>
 intro v y h
 rcases DataW.trod_slice Tryz.underlying23 h with⟨hv,_⟩ | ⟨a,len,cap,elems,rest,m,hm,hv,_,_,hl,hcap,hlen,hel,_,_⟩
 ·obtain rfl:v=.slice none 0 0:=by simpa using hv
  exact⟨0,[],rfl,none,0,rfl⟩
 ·obtain rfl:v=.slice (some a) len cap:=by simpa using hv
  rw[show Tryz.prog.cellsOf 26=5 by kernel_rfl]at hel
  have each:∀i,i<len→∃d,∃(p:Tr) (x y:Value),TrCell W (a.add (i*5)) p x y∧PsSome W y p.cs∧TsAt d W x p.ks:=by
   intro i hi;have h1:=hel i hi
   rw[A8 (by omega)]at h1
   obtain⟨cs',h2,h3⟩:=Option.bind_eq_some_iff.1 h1;obtain⟨k,t,b,u,v,m',z,z',rfl,hk,h4,h5⟩:=A1Z h3
   obtain⟨d,ts,hts⟩:=ih m' (by omega) u z h4
   obtain⟨d',ps,hps⟩:=A2b m' v z' h5;obtain⟨_,_,hc⟩:=World.cells?_some h2
   have hx:∀j,0<j→(a.add (i*5)).add j=⟨(a.add (i*5)).block,(a.add (i*5)).off+j,none⟩:=fun j hj=>by
    generalize a.add (i*5)=X;unfold Addr.add
    rw[if_neg (by omega)]
   have h0:=hc 0 (by decide)
   have e0:(a.add (i*5)).add 0=a.add (i*5):=by unfold Addr.add;simp
   rw[e0]at h0
   have g:=fun j (hj:0<j) (hj2:j<5)=>by have:=hc j hj2;rwa[hx j hj]at this
   exact⟨d,.mk k t b ps ts,u,v,⟨h0,g 1 (by decide) (by decide),g 2 (by decide) (by decide),g 3 (by decide) (by decide),g 4 (by decide) (by decide)⟩,⟨d',hps⟩,hts⟩
  obtain⟨D,hD⟩:=fuel_lt (q:=fun i d=>∃(p:Tr) (x y:Value),TrCell W (a.add (i*5)) p x y∧PsSome W y p.cs∧TsAt d W x p.ks) (fun i x z hxz ⟨p,u,v,hp,hs,hu⟩=>⟨p,u,v,hp,hs,hu.mono hxz⟩) each;obtain⟨ps,hpl,hps⟩:=A1K (α:=Tr) (Q:=fun(i:Nat) (p:Tr)=>∃x y,TrCell W (a.add (i*5)) p x y∧PsSome W y p.cs∧TsAt D W x p.ks) len hD
  refine⟨D+1,ps,some a,cap,by rw[hpl],⟨by unfold maxLen at hcap;omega,by omega⟩,fun j p hj=>?_⟩
  obtain⟨x,y,hp,hs,hu⟩:=hps j p hj;obtain⟨b,o,s⟩:=a;refine⟨b,o,s,x,y,rfl,?_,hp,hs,hu⟩;have:=block_lt_of_cell hp.c0
  rwa[L7]at this
end
end Go.Proofs.YtbddhkgbpjhhaaaGreatDoor
