/-
  LAID TOGETHER, BY PROGRAM, of: Bgs, Bgt, Bgu, Bgv, Bgw, Bgx.
-/
import Derived.Test.YtbddhkgbpjhhaaaGreatDoorGMtA
import Derived.Test.YtbddhkgbpjhhaaaGreatDoorGBase
import Derived.BigRegion
import Derived.RegionTactic
import Derived.Laws.Rows
import Derived.Deep.Cut
import Derived.OwnWalk
import Derived.Laws.OwnMore
set_option maxHeartbeats 3200000
set_option maxRecDepth 100000
namespace Go.Proofs.YtbddhkgbpjhhaaaGreatDoor
open Go.RowKit Go.Sort
abbrev Itm:=Value × List Vl
def vals (D:List Itm):List Value:=D.map Prod.fst
structure Srt (w0:World) (g:Nat) (w:World) (D:List Itm):Prop where
 lies:Lies w g 73 (vals D)
 base:Below w0 w0 w
 at_:w0.heap.size≤g
 rd:∀x∈D,RowAt w0 x.1 x.2∧x.2.length≤1000000
theorem Srt.cell {w0 w:World} {g i:Nat} {D:List Itm} {x:Itm} (h:Srt w0 g w D) (hx:D[i]?=some x):w.cell? ⟨g,i,none⟩=some x.1:=h.lies.cell (by unfold vals;rw[F5,hx];rfl)
theorem Srt.free {w0 w:World} {g:Nat} {D:List Itm} (h:Srt w0 g w D) (i:Nat):w.frozen? ⟨g,i,none⟩=false:=h.lies.free i
theorem Srt.drewN {w0 w:World} {g:Nat} {D:List Itm} (h:Srt w0 g w D) (n:Nat):Srt w0 g (w.drewN n) D:=⟨h.lies.drewN n,N2 h.base n,h.at_,h.rd⟩
theorem Srt.drew {w0 w:World} {g:Nat} {D:List Itm} (h:Srt w0 g w D):Srt w0 g w.drew D:=⟨h.lies.drew,h.base.drew,h.at_,h.rd⟩
theorem Srt.below {w0 w w':World} {g:Nat} {D:List Itm} (h:Srt w0 g w D) (hb:Below w w w'):Srt w0 g w' D :=
 ⟨h.lies.below hb h.lies.lt,h.base.trans (M9 hb h.base.size),h.at_,h.rd⟩
theorem Srt.form {w0 w:World} {g:Nat} {D:List Itm} (h:Srt w0 g w D) {i:Nat} {x:Itm} (hx:D[i]?=some x):∃A c,x.1=.slice A x.2.length c:=by
 obtain⟨A,c,hv,_⟩:=(h.rd x (C8 hx)).1;exact⟨A,c,hv⟩
theorem A8o {D:List Itm} {i j:Nat} {z:Itm} (h:z∈So.swap D i j):z∈D:=by
 unfold So.swap at h
 split at h
 ·rename_i x y hx hy
  rcases List.mem_or_eq_of_mem_set h with h | rfl
  ·rcases List.mem_or_eq_of_mem_set h with h | rfl
   ·exact h
   ·exact C8 hy
  ·exact C8 hx
 ·exact h
theorem A58 {D:List Itm} {i j:Nat} {x y:Itm} (hx:D[i]?=some x) (hy:D[j]?=some y):vals (So.swap D i j)=((vals D).set i y.1).set j x.1:=by
 unfold So.swap vals;rw[hx,hy];simp only[List.map_set]
theorem Srt.swap {w0 w:World} {g i j:Nat} {D:List Itm} {x y:Itm} (h:Srt w0 g w D) (hx:D[i]?=some x) (hy:D[j]?=some y) :
  Srt w0 g ((w.setCell ⟨g,i,none⟩ y.1).setCell ⟨g,j,none⟩ x.1) (So.swap D i j):=by
 refine⟨?_,(h.base.setCell (p:=⟨g,i,none⟩) h.at_ _).setCell (p:=⟨g,j,none⟩) h.at_ _,h.at_,fun z hz=>h.rd z (A8o hz)⟩;rw[A58 hx hy];exact(h.lies.set i y.1).set j x.1
theorem Y9 {A B C D:List Itm} {x y:Itm} {i j:Nat} (e:D=A++x::(B++y::C)) (hi:i=A.length) (hj:j=A.length+1+B.length):D[i]?=some x∧D[j]?=some y:=by
 subst e hi hj
 refine⟨by simp,?_⟩
 rw[E8 (by omega),show A.length+1+B.length-A.length=B.length+1 by omega,List.getElem?_cons_succ,E8 (by omega),Nat.sub_self]
 rfl
theorem Srt.swapping {w0 w:World} {g i j:Nat} {D:List Itm} {x y:Itm} (h:Srt w0 g w D) (hx:D[i]?=some x) (hy:D[j]?=some y) :
  ∃A1 n1 c1 A2 n2 c2 q,w.drew.cell? ⟨g,i,none⟩=some (.slice A1 n1 c1)∧w.drew.cell? ⟨g,j,none⟩=some (.slice A2 n2 c2)∧w.drew.frozen? ⟨g,i,none⟩=false ∧
   (w.setCell ⟨g,i,none⟩ (.slice A2 n2 c2)).drew.frozen? ⟨g,j,none⟩=false∧(w.setCell ⟨g,i,none⟩ (.slice A2 n2 c2)).drew.cell? ⟨g,j,none⟩=some q ∧
   Hid (∀n,Srt w0 g (((w.setCell ⟨g,i,none⟩ (.slice A2 n2 c2)).setCell ⟨g,j,none⟩ (.slice A1 n1 c1)).drewN n) (So.swap D i j)):=by
 obtain⟨A1,c1,f1⟩:=h.form hx;obtain⟨A2,c2,f2⟩:=h.form hy;obtain⟨xv,xr⟩:=x;obtain⟨yv,yr⟩:=y;simp only at f1 f2;subst f1 f2;have hG:=(h.lies.set i (.slice A2 yr.length c2)).drew
 have hlt2:j<((vals D).set i (.slice A2 yr.length c2)).length:=by rw[List.length_set];unfold vals;rw[E0];exact(D8.1 hy).1
 exact⟨A1,_,c1,A2,_,c2,_,h.drew.cell hx,h.drew.cell hy,h.drew.free i,hG.free j,hG.cell (A8 hlt2),J1 fun n=>(h.swap hx hy).drewN n⟩
theorem A1p (w0:World) (g:Nat) (f:Value) (P U M V S:List Itm) (N c:Nat) (a b n:Int) (w:World) (hN:N=(P++(U++(M++(V++S)))).length) (ha:a=P.length) (hb:b=P.length+U.length+M.length) (hn:n=U.length) (hV:V.length=U.length) (hs:N≤1000000) (h:Srt w0 g w (P++(U++(M++(V++S))))) :
  Calls Tryz.prog 166 #[.slice (some ⟨g,0,none⟩) N c,a,b,n,f] w fun e w'=>e=.returned (.tuple #[])∧Srt w0 g w' (P++(V++(M++(U++S)))):=by
 obtain⟨a,rfl⟩:∃a':Nat,a=a':=⟨_,ha⟩
 obtain⟨b,rfl⟩:∃b':Nat,b=b':=⟨P.length+U.length+M.length,by omega⟩
 obtain⟨n,rfl⟩:∃n':Nat,n=n':=⟨_,hn⟩
 have hN2:N=P.length+n+M.length+n+S.length:=by rw[hN];simp only[C6];omega
 have H0:Hid (Srt w0 g w (P++(V.take 0++(U.drop 0++(M++(U.take 0++(V.drop 0++S))))))):=J1 (by simpa using h)
 have HB:=J1 (show a+n+M.length=b by omega)
 have HA:=J1 (show a=P.length by omega)
 have HN:=J1 (show n=U.length∧V.length=n by omega)
 have HN2:=J1 (show b+n≤N by omega)
 clear h hN hN2 ha hb hn hV;go_enter Tryz.func166,Tryz.ntmps166;go_wp2_with (fail)
 go_loopw [10] (fun i wr=>∃(k:Nat),k≤n∧i=.int .i64 k∧Hid (Srt w0 g wr (P++(V.take k++(U.drop k++(M++(U.take k++(V.drop k++S)))))))) (fun i _=>n-(intOf i).toNat)
 case atStart=>exact⟨0,E3 _,rfl,H0⟩
 case round =>
  obtain⟨k,hk,rfl,hz⟩:=hrel
  by_cases hlt:k<n
  ·obtain⟨x,gx⟩:∃x,U[k]?=some x:=⟨U[k]'(by have:=HN.out;omega),A8 _⟩
   obtain⟨y,gy⟩:∃y,V[k]?=some y:=⟨V[k]'(by have:=HN.out;omega),A8 _⟩
   obtain⟨h1,h2⟩:=HN.out;have hba:=HB.out;have hbn:=HN2.out;have haP:=HA.out;obtain⟨D,hD⟩:∃D,D=P++(V.take k++(U.drop k++(M++(U.take k++(V.drop k++S))))):=⟨_,rfl⟩
   have eU:U.drop k=x::U.drop (k+1):=by rw[List.drop_eq_getElem_cons (by omega)];congr 1;rw[A8 (by omega)]at gx;exact F0 gx
   have eV:V.drop k=y::V.drop (k+1):=by rw[List.drop_eq_getElem_cons (by omega)];congr 1;rw[A8 (by omega)]at gy;exact F0 gy
   have eD:D=(P++V.take k)++x::((U.drop (k+1)++(M++U.take k))++y::(V.drop (k+1)++S)):=by rw[hD,eU,eV];simp only[D4,G8]
   have l1:a+k=(P++V.take k).length:=by rw[C6,E4];omega
   have l2:b+k=(P++V.take k).length+1+(U.drop (k+1)++(M++U.take k)).length:=by simp only[C6,E4,List.length_drop];omega
   obtain⟨gx1,gy1⟩:=Y9 eD l1 l2
   have hsw:So.swap D (a+k) (b+k)=P++(V.take (k+1)++(U.drop (k+1)++(M++(U.take (k+1)++(V.drop (k+1)++S))))):=by
    rw[eD,l1,l2,So.swap_at,D7 (i:=k) (l:=V),D7 (i:=k) (l:=U),gx,gy];simp only[D4,G8,Option.toList,F1]
   have hs0:=hz.out;rw[←hD]at hs0;obtain⟨A1,n1,c1,A2,n2,c2,q3,y1,y2,z1,z3,y3,HSW⟩:=hs0.swapping gx1 gy1;rw[hsw]at HSW
   have i1:(0:Int)≤(a:Int)+(k:Int):=by omega
   have i2:(a:Int)+(k:Int)<(N:Int):=by omega
   have i3:(0:Int)≤(b:Int)+(k:Int):=by omega
   have i4:(b:Int)+(k:Int)<(N:Int):=by omega
   clear eU eV eD l1 l2 hsw hs0 hz gx1 gy1 h1 h2 hba haP gx gy hD;go_wp2_with (fail)
   go_region
   go_wp2_with (fail)
   go_roundw
   case rel=>exact⟨k+1,by omega,by go_num,J1 (HSW.out _)⟩
   case measure=>simp[intOf];omega
  ·have hres:=J1 (show Srt w0 g wr (P++(V++(M++(U++S)))) by
    have h:=hz.out;obtain⟨h1,h2⟩:=HN.out
    obtain rfl:k=n:=by omega
    rw[C7 (by omega),List.drop_of_length_le (by omega),C7 (by omega),List.drop_of_length_le (by omega)]at h
    simpa using h)
   go_wp2_with (fail)
   go_end0
   exact⟨rfl,hres.out⟩
theorem A5g (w0:World) (g:Nat) (f:Value) (P U V S:List Itm) (N c:Nat) (a m b:Int) (w:World) (hN:N=(P++(U++(V++S))).length) (ha:a=P.length) (hm:m=P.length+U.length) (hb:b=P.length+U.length+V.length) (hU:0<U.length) (hV:0<V.length) (hs:N≤1000000) (h:Srt w0 g w (P++(U++(V++S)))) :
  Calls Tryz.prog 145 #[.slice (some ⟨g,0,none⟩) N c,a,m,b,f] w fun e w'=>e=.returned (.tuple #[])∧Srt w0 g w' (P++(V++(U++S))):=by
 obtain⟨i0,hi0⟩:∃i0,i0=U.length:=⟨_,rfl⟩;obtain⟨j0,hj0⟩:∃j0,j0=V.length:=⟨_,rfl⟩
 have e1:m-a=(i0:Int):=by omega
 have e2:b-m=(j0:Int):=by omega
 have e3:(i0:Int)≤m:=by omega
 have e4:m+(j0:Int)≤(N:Int):=by rw[hN];simp only[C6];omega
 have H0:Hid (∃P' U' V' S':List Itm,U'.length=i0∧V'.length=j0∧(P'.length:Int)+i0=m∧0<i0∧0<j0∧(P'++(U'++(V'++S'))).length=N∧P'++(V'++(U'++S'))=P++(V++(U++S))∧Srt w0 g w (P'++(U'++(V'++S')))) :=
  J1 ⟨P,U,V,S,hi0.symm,hj0.symm,by omega,by omega,by omega,hN.symm,rfl,h⟩
 have hs2:(N:Int)≤1000000:=by omega
 obtain⟨TG,hTG⟩:∃TG,TG=P++(V++(U++S)):=⟨_,rfl⟩;rw[←hTG]at H0 ⊢;clear hTG h hN hi0 hj0 ha hm hb hU hV;go_enter Tryz.func145,Tryz.ntmps145;go_wp2_with (fail)
 go_loopw [10,11] (fun x y wr=>∃(i j:Nat),x=.int .i64 i∧y=.int .i64 j∧(i:Int)≤m∧m+(j:Int)≤(N:Int)∧Hid (∃P' U' V' S':List Itm,U'.length=i∧V'.length=j∧(P'.length:Int)+i=m∧0<i∧0<j∧(P'++(U'++(V'++S'))).length=N∧P'++(V'++(U'++S'))=TG∧Srt w0 g wr (P'++(U'++(V'++S'))))) (fun x y _=>(intOf x).toNat+(intOf y).toNat)
 case atStart=>exact⟨i0,j0,rfl,rfl,e3,e4,H0⟩
 case round =>
  obtain⟨i,j,rfl,rfl,hi,hj,hz⟩:=hrel;obtain⟨P',U',V',S',hUl,hVl,hPm,hi1,hj1,hlen,htg,hsr⟩:=hz.out;obtain⟨p,hp⟩:∃p,p=P'.length:=⟨_,rfl⟩
  have e5:m-(i:Int)=(p:Int):=by omega
  have HL:=J1 hlen;have HT:=J1 htg;have HP:=J1 (J0 hp (J0 hPm (J0 hUl hVl)))
  rcases Nat.lt_trichotomy i j with g1 | g1 | g1
  ·obtain⟨d,hd⟩:∃d:Nat,d=j-i:=⟨_,rfl⟩
   have e6:(j:Int)-(i:Int)=(d:Int):=by omega
   obtain⟨q,hq⟩:∃q:Int,q=m+(j:Int)-(i:Int):=⟨_,rfl⟩;have e7:m+(j:Int)-(i:Int)=q:=hq.symm
   have lt1:(V'.take d).length=d:=by rw[E4];omega
   have ld1:(V'.drop d).length=i:=by rw[List.length_drop];omega
   have eD:P'++(U'++(V'++S'))=P'++(U'++(V'.take d++(V'.drop d++S'))):=by
    rw[←D4 (V'.take d),List.take_append_drop]
   rw[eD]at hsr hlen
   have c1:=A1p w0 g f P' U' (V'.take d) (V'.drop d) S' N c (p:Int) q (i:Int) wr hlen.symm (by omega) (by omega) (by omega) (by omega) hs hsr
   have r1:(i:Int)≠(j:Int):=by omega
   have r2:¬((j:Int)<(i:Int)):=by omega
   have r3:q≤(N:Int):=by omega
   have r4:0≤q:=by omega
   have HJ:=J1 (J0 lt1 ld1);have HD:=J1 hd;clear hsr hlen htg hz eD hq lt1 ld1 hp hd hPm hUl hVl;go_wp2_with (fail);refine c1.mono ?_;rintro E w1 ⟨rfl,hsr2⟩;have HS:=J1 hsr2;clear c1 hsr2;go_wp2_with (fail)
   go_roundw
   case rel =>
    obtain⟨hp,hPm,hUl,hVl⟩:=HP.out;have hd:=HD.out
    refine⟨i,d,rfl,by go_num,hi,by omega,J1 ⟨P',V'.drop d,V'.take d,U'++S',HJ.out.2,HJ.out.1,by omega,hi1,by omega,?_,?_,?_⟩⟩
    ·rw[←HL.out];simp only[C6,HJ.out.1,HJ.out.2];omega
    ·rw[←HT.out,←D4 (V'.take d),List.take_append_drop]
    ·exact HS.out
   case measure=>have hd:=HD.out;simp[intOf];omega
  ·subst g1
   have c1:=A1p w0 g f P' U' [] V' S' N c (p:Int) m (i:Int) wr hlen.symm (by omega) (by simp;omega) (by omega) (by omega) hs hsr
   clear hsr hlen htg hz hp hPm hUl hVl;go_wp2_with (fail);refine c1.mono ?_;rintro E w1 ⟨rfl,hsr2⟩
   have HS:=J1 (show Srt w0 g w1 TG by rw[←HT.out];exact hsr2)
   clear c1 hsr2;go_wp2_with (fail)
   go_end0
   exact⟨rfl,HS.out⟩
  ·obtain⟨d,hd⟩:∃d:Nat,d=i-j:=⟨_,rfl⟩
   have e6:(i:Int)-(j:Int)=(d:Int):=by omega
   have lt1:(U'.take j).length=j:=by rw[E4];omega
   have ld1:(U'.drop j).length=d:=by rw[List.length_drop];omega
   have eD:P'++(U'++(V'++S'))=P'++(U'.take j++(U'.drop j++(V'++S'))):=by
    rw[←D4 (U'.take j),List.take_append_drop]
   rw[eD]at hsr hlen
   have c1:=A1p w0 g f P' (U'.take j) (U'.drop j) V' S' N c (p:Int) m (j:Int) wr hlen.symm (by omega) (by omega) (by omega) (by omega) hs hsr
   have r1:(i:Int)≠(j:Int):=by omega
   have r2:(j:Int)<(i:Int):=by omega
   have HJ:=J1 (J0 lt1 ld1);have HD:=J1 hd;clear hsr hlen htg hz eD lt1 ld1 hp hd hPm hUl hVl;go_wp2_with (fail);refine c1.mono ?_;rintro E w1 ⟨rfl,hsr2⟩;have HS:=J1 hsr2;clear c1 hsr2;go_wp2_with (fail)
   go_roundw
   case rel =>
    obtain⟨hp,hPm,hUl,hVl⟩:=HP.out;have hd:=HD.out
    refine⟨d,j,by go_num,rfl,by omega,hj,J1 ⟨P'++V',U'.drop j,U'.take j,S',HJ.out.2,HJ.out.1,?_,by omega,hj1,?_,?_,?_⟩⟩
    ·rw[C6];omega
    ·rw[←HL.out];simp only[C6,HJ.out.1,HJ.out.2];omega
    ·rw[←HT.out,D4,←D4 (U'.take j),List.take_append_drop]
    ·rw[D4];exact HS.out
   case measure=>have hd:=HD.out;simp[intOf];omega
abbrev icm (x y:Itm):Int:=Bg.cr x.2 y.2
theorem T4:So.Pre icm:=⟨fun a b=>Bg.cr_cmp.pre.asym a.2 b.2,fun a b c=>Bg.cr_cmp.pre.trans a.2 b.2 c.2⟩
theorem A24 (D:List Itm) {i j:Nat} (h:i≠j):So.swap D i j=So.swap D j i:=by
 unfold So.swap
 cases hi:D[i]? with
 | none=>cases hj:D[j]? <;> rfl
 | some x =>
  cases hj:D[j]? with
  | none=>rfl
  | some y=>exact List.set_comm _ _ h
theorem Srt.cmps {w0 w:World} {g i j:Nat} {D:List Itm} {x y:Itm} (h:Srt w0 g w D) (hx:D[i]?=some x) (hy:D[j]?=some y) :
  ∀W,Below w w W→Calls Tryz.prog 36 #[x.1,y.1] W fun e w'=>e=.returned (.int .i64 (icm x y))∧Below W W w':=fun W hb=>by
 obtain⟨h1,l1⟩:=h.rd x (C8 hx);obtain⟨h2,l2⟩:=h.rd y (C8 hy);have hB:=h.base.trans (M9 hb h.base.size)
 exact A2T _ _ _ _ W (h1.below hB (C3 _)) (h2.below hB (C3 _)) (by omega) (by omega)
theorem A2j (w0:World) (g:Nat) (P Q S:List Itm) (N c:Nat) (a b:Int) (w:World) (hN:N=(P++(Q++S)).length) (ha:a=P.length) (hb:b=P.length+Q.length) (hs:N≤1000000) (h:Srt w0 g w (P++(Q++S))) :
  Calls Tryz.prog 127 #[.slice (some ⟨g,0,none⟩) N c,a,b,.func (.func 36) #[] #[]] w fun e w'=>e=.returned (.tuple #[])∧∃R,R.Perm Q∧So.Ord icm R∧Srt w0 g w' (P++(R++S)):=by
 obtain⟨a,rfl⟩:∃a':Nat,a=a':=⟨_,ha⟩
 obtain⟨b,rfl⟩:∃b':Nat,b=b':=⟨P.length+Q.length,by omega⟩
 have hN2:N=a+Q.length+S.length:=by rw[hN];simp only[C6];omega
 have H0:Hid (∃R T:List Itm,(R++T).Perm Q∧R.length=min (a+1-a) Q.length∧So.Ord icm R∧Srt w0 g w (P++(R++(T++S)))):=J1 (by
  cases Q with
  | nil=>exact⟨[],[],.refl _,by simp,So.Ord.nil,by simpa using h⟩
  | cons x r=>exact⟨[x],r,.refl _,by simp,So.Ord.one x,by simpa using h⟩)
 have HQ:=J1 (show a+Q.length=b∧a=P.length∧b≤N∧N=b+S.length by omega)
 have hsa:a≤1000000:=by omega
 have hsb:b≤1000000:=by omega
 clear h hN hN2 ha hb;go_enter Tryz.func127,Tryz.ntmps127;go_wp2_with (fail)
 go_loopw [8] (fun x wr=>∃(i:Nat),x=.int .i64 i∧i≤1000001∧Hid (a+1≤i∧∃R T:List Itm,(R++T).Perm Q∧R.length=min (i-a) Q.length∧So.Ord icm R∧Srt w0 g wr (P++(R++(T++S))))) (fun x _=>1000002-(intOf x).toNat)
 case atStart=>exact⟨a+1,by go_num,by omega,J1 ⟨C3 _,H0.out⟩⟩
 case round =>
  obtain⟨i,rfl,hi6,hz⟩:=hrel
  by_cases hlt:i<b
  ·obtain⟨hia,R,T,hperm,hRl,hord,hsr⟩:=hz.out;obtain⟨hq1,hq2,hq3,hq4⟩:=HQ.out
   have hTl:0<T.length:=by have:=hperm.length_eq;rw[C6]at this;omega
   obtain⟨t,T',rfl⟩:∃t T',T=t::T':=by cases T with
    | nil=>simp at hTl
    | cons t r=>exact⟨t,r,rfl⟩
   have hRl2:R.length=i-a:=by have:=hperm.length_eq;rw[C6]at this;omega
   have HPO:=J1 (J0 hperm (J0 hord (J0 hia hRl2)))
   have HI0:Hid (a≤i∧∃X Y:List Itm,X++Y=R∧X.length=i-a∧(∀y∈Y,icm t y<0)∧Srt w0 g wr (P++(X++(t::(Y++(T'++S)))))) :=
    J1 ⟨by omega,R,[],by simp,hRl2,by simp,by simpa using hsr⟩
   clear hperm hord hia hRl hRl2 hsr hTl hz hq1 hq2 hq3 hq4;go_wp2_with (fail)
   go_loopw [9] (fun x wr=>∃(j:Nat),x=.int .i64 j∧j≤1000000∧Hid (a≤j∧j≤i∧∃X Y:List Itm,X++Y=R∧X.length=j-a∧(∀y∈Y,icm t y<0)∧Srt w0 g wr (P++(X++(t::(Y++(T'++S)))))) ) (fun x _=>(intOf x).toNat)
   case atStart=>exact⟨i,rfl,by omega,J1 ⟨HI0.out.1,C3 _,HI0.out.2⟩⟩
   case round =>
    obtain⟨j,rfl,hj6,hz⟩:=hrel;obtain⟨haj,hji,X,Y,hXY,hXl,hY,hsr⟩:=hz.out;have HXY:=J1 (J0 hXY (J0 hXl (J0 hY (J0 haj hji))))
    -- out of the inner loop
    have out:(∀z,X.getLast?=some z→So.Le icm z t)→∀W,Srt w0 g W (P++(X++(t::(Y++(T'++S)))))→∃(i':Nat),(Value.int .i64 ((i:Int)+1))=.int .i64 i'∧i'≤1000001∧Hid (a+1≤i'∧∃R T:List Itm,(R++T).Perm Q∧R.length=min (i'-a) Q.length∧So.Ord icm R∧Srt w0 g W (P++(R++(T++S)))):=by
     intro hle W hW;obtain⟨hp,ho,hia,hRl⟩:=HPO.out;have hpl:=hp.length_eq;rw[C6,G5]at hpl
     refine⟨i+1,by go_num,by omega,J1 ⟨by omega,X++t::Y,T',?_,?_,?_,?_⟩⟩
     ·refine List.Perm.trans ?_ hp;rw[←hXY];simp only[D4,G8];refine List.Perm.append_left X ?_;exact List.perm_middle.symm
     ·rw[←hXY,C6]at hRl hpl;simp only[C6,G5];omega
     ·exact So.Ord.insert T4 (by rw[hXY];exact ho) hY hle
     ·simpa using hW
    have OUT:=J1 out;clear out
    by_cases hja:a<j
    ·obtain⟨X',z,rfl⟩:∃X' z,X=X'++[z]:=by
      rcases List.eq_nil_or_concat X with rfl | ⟨X',z,rfl⟩
      ·simp at hXl;omega
      ·exact⟨X',z,by simp⟩
     obtain⟨j1,hj1⟩:∃j1,j=j1+1:=⟨j-1,by omega⟩
     have e5:(j:Int)-1=(j1:Int):=by omega
     obtain⟨hq1,hq2,hq3,hq4⟩:=HQ.out;rw[C6,List.length_singleton]at hXl;obtain⟨D,hD⟩:∃D,D=P++(X'++[z]++(t::(Y++(T'++S)))):=⟨_,rfl⟩
     have eD:D=(P++X')++z::([]++t::(Y++(T'++S))):=by rw[hD];simp
     have l1:j1=(P++X').length:=by rw[C6];omega
     have l2:j=(P++X').length+1+([]:List Itm).length:=by rw[←l1];simpa using hj1
     obtain⟨gz,gt⟩:=Y9 eD l1 l2
     have hsw:So.swap D j j1=P++(X'++(t::(z::Y++(T'++S)))):=by
      rw[A24 D (by omega),eD,l1,l2,So.swap_at];simp
     rw[←hD]at hsr;have HG:=J1 (J0 gt (J0 gz hsw));have HS:=J1 hsr
     have hjN:j<N:=by have:=(D8.1 gt).1;have hl:=HPO.out.2.2.2;have:i<b:=hlt;omega
     have cc:=N7 (hsr.cmps gt gz);obtain⟨d,hd⟩:∃d,d=icm t z:=⟨_,rfl⟩;rw[←hd]at cc;have HD:=J1 hd;have y1:=cell_regrown (hsr.cell gt);have y2:=cell_regrown (hsr.cell gz)
     have i1:(a:Int)<(j:Int):=by omega
     have i2:(j:Int)<(N:Int):=by omega
     have i3:(j1:Int)<(N:Int):=by omega
     have HJ:=J1 hj1;clear hsr gt gz hsw eD l1 l2 hd hz haj hji hXY hXl hY hq1 hq2 hq3 hq4 hj1;go_wp2_with (fail)
     refine wp_region_quiet_below (by kernel_rfl) (by kernel_rfl) ?_
     repeat(go_big_quiet_step (with_reducible exact cc _ _))
     refine wpQuiet_nil ?_;intro _ hw';obtain⟨⟨dq,osq⟩,hw''⟩:=hw';subst hw'';have HS2:=J1 (HS.out.below (below_regrown wr dq osq));clear y1 y2 cc;generalize grow (redrawn wr dq) osq=w7 at HS2 ⊢
     by_cases hd0:d<0
     ·obtain⟨A1,n1,c1,A2,n2,c2,q3,y1,y2,z1,z3,y3,HSW⟩:=HS2.out.swapping HG.out.1 HG.out.2.1;have hHG:=HG.out.2.2;rw[hHG]at HSW;clear hHG;go_wp2_with (fail)
      go_region
      go_wp2_with (fail)
      go_roundw
      case rel =>
       obtain⟨hXY,hXl,hY,haj,hji⟩:=HXY.out;have hj1:=HJ.out;rw[C6,List.length_singleton]at hXl
       refine⟨j1,by go_num,by omega,J1 ⟨by omega,by omega,X',z::Y,?_,by omega,?_,HSW.out _⟩⟩
       ·rw[←hXY];simp
       ·intro y hy
        rcases List.mem_cons.1 hy with rfl | hy
        ·rw[←HD.out];exact hd0
        ·exact hY y hy
      case measure=>have hj1:=HJ.out;simp[intOf];omega
     ·have hge:=J1 (OUT.out (fun z' hz'=>by
       have:z'=z:=by simpa using hz'.symm
       subst this;unfold So.Le
       rw[←HD.out];exact hd0) w7 (by have:=HS2.out;rw[hD]at this;exact this))
      have hd1:¬(d<0):=hd0;go_wp2_with (fail)
      go_roundw
      case rel=>exact hge.out
      case measure=>simp[intOf];omega
    ·have hX0:X=[]:=D6 (by omega)
     have hge:∀W,Srt w0 g W (P++(X++(t::(Y++(T'++S)))))→_:=OUT.out (fun z hz=>by rw[hX0]at hz;simp at hz)
     have HGE:=J1 (hge _ (hsr.drewN 0));have HGD:=J1 hge;have HSR:=J1 hsr
     have hg:decide ((a:Int)<(j:Int))=false:=by simp;omega
     clear hsr hX0 hge hz hXY hXl hY haj hji;go_wp2_with (fail)
     go_quiet (fail)
     go_wp2_with (fail)
     go_roundw
     case rel=>exact HGD.out _ (HSR.out.drewN _)
     case measure=>simp[intOf];omega
  ·obtain⟨hia,R,T,hperm,hRl,hord,hsr⟩:=hz.out;obtain⟨hq1,hq2,hq3,hq4⟩:=HQ.out
   have hT:T=[]:=by
    have:=hperm.length_eq;rw[C6]at this
    exact D6 (by omega)
   subst hT;rw[F3]at hperm
   have HR:=J1 (show ∃R,R.Perm Q∧So.Ord icm R∧Srt w0 g wr (P++(R++S)) from⟨R,hperm,hord,by simpa using hsr⟩)
   clear hia hperm hRl hord hsr hq1 hq2 hq3 hq4 hz;go_wp2_with (fail)
   go_end0
   exact⟨rfl,HR.out⟩
abbrev A2X (w0:World) (g:Nat) (P U V S:List Itm) (E:Ending) (w':World):Prop:=E=.returned (.tuple #[])∧∃R,R.Perm (U++V)∧So.Ord icm R∧Srt w0 g w' (P++(R++S))
theorem A2q {P X R:List Itm} {i k:Nat} {x:Itm} (hi:i=P.length+k) (h:X[k]?=some x):(P++(X++R))[i]?=some x:=by
 subst hi
 rw[E8 (by omega),Nat.add_sub_cancel_left,F2 (D8.1 h).1]
 exact h
theorem A3B {X:List Itm} {k:Nat} {x:Itm} (h:X[k]?=some x):X.drop k=x::X.drop (k+1):=by
 obtain⟨h1,rfl⟩:=D8.1 h;exact List.drop_eq_getElem_cons h1
theorem A23 {X:List Itm} {k:Nat} {x:Itm} (h:X[k]?=some x):X.take (k+1)=X.take k++[x]:=by
 rw[D7,h];rfl
theorem A9M (w0:World) (g:Nat) (P:List Itm) (x:Itm) (V S:List Itm) (N c:Nat) (a m b:Int) (w:World) (hN:N=(P++([x]++(V++S))).length) (ha:a=P.length) (hm:m=P.length+1) (hb:b=P.length+1+V.length) (oV:So.Ord icm V) (hs:N≤1000000) (h:Srt w0 g w (P++([x]++(V++S)))) :
  Calls Tryz.prog 128 #[.slice (some ⟨g,0,none⟩) N c,a,m,b,.func (.func 36) #[] #[]] w (A2X w0 g P [x] V S):=by
 obtain⟨a,rfl⟩:∃a':Nat,a=a':=⟨_,ha⟩
 obtain⟨m,rfl⟩:∃m':Nat,m=m':=⟨P.length+1,by omega⟩
 obtain⟨b,rfl⟩:∃b':Nat,b=b':=⟨P.length+1+V.length,by omega⟩
 have hN2:N=a+1+V.length+S.length:=by rw[hN];simp only[C6,List.length_singleton];omega
 have e1:(m:Int)-(a:Int)=1:=by omega
 have HQ:=J1 (show m=a+1∧a=P.length∧b=a+1+V.length∧b≤N by omega)
 obtain⟨p,hp⟩:∃p:Nat→Prop,p=fun k=>∃v,V[k-m]?=some v∧icm v x<0:=⟨_,rfl⟩
 have hfall:So.Falls p m b:=by
  rw[hp];rintro k h hk hkh hb ⟨v,hv,hvx⟩
  have hkl:k-m<V.length:=by omega
  exact⟨_,A8 hkl,So.le_lt T4 (oV.at_ T4 (show k-m≤h-m by omega) (A8 hkl) hv) hvx⟩
 have HP:=J1 hp;have HF:=J1 hfall;have HO:=J1 oV;have H0:=J1 h
 have hmb:m≤b:=by omega
 have hb6:b≤1000000:=by omega
 have hm6:m≤1000000:=by omega
 clear hN2 hN ha hm hb hp hfall oV h;go_enter Tryz.func128,Tryz.ntmps128;go_wp2_with (fail)
 go_loopw [10,11] (fun s t wr=>∃(i j:Nat),s=.int .i64 i∧t=.int .i64 j∧i≤1000000∧j≤1000000∧Hid (So.Half p m b i j)∧Hid (Srt w0 g wr (P++([x]++(V++S))))) (fun s t _=>(intOf t).toNat-(intOf s).toNat)
 case atStart=>exact⟨m,b,rfl,rfl,hm6,hb6,J1 (So.Half.start hmb),H0⟩
 case round =>
  obtain⟨i,j,rfl,rfl,hi6,hj6,hh,hz⟩:=hrel
  by_cases hlt:i<j
  ·obtain⟨h,hh2⟩:∃h,h=(i+j) / 2:=⟨_,rfl⟩
   have eh:((i:Int)+(j:Int)) / 2=(h:Int):=by omega
   obtain⟨hi,hj⟩:i≤h∧h<j:=by omega
   obtain⟨hq1,hq2,hq3,hq4⟩:=HQ.out;have hmi:=hh.out.l;have hjb:=hh.out.h
   obtain⟨v,gv⟩:∃v,V[h-m]?=some v:=⟨V[h-m]'(by omega),A8 _⟩
   have hsr:=hz.out
   have gx:(P++([x]++(V++S)))[a]?=some x:=A2q (k:=0) (by omega) rfl
   have gh:(P++([x]++(V++S)))[h]?=some v:=by
    rw[←D4]
    exact A2q (k:=h-m) (by rw[C6,List.length_singleton];omega) gv
   have cc:=N7 (hsr.cmps gh gx);obtain⟨d,hd⟩:∃d,d=icm v x:=⟨_,rfl⟩;rw[←hd]at cc;have y1:=cell_regrown (hsr.cell gh);have y2:=cell_regrown (hsr.cell gx)
   have i1:(h:Int)<(N:Int):=by omega
   have i2:(a:Int)<(N:Int):=by omega
   have HS:=J1 hsr;have HV:=J1 (J0 gv (J0 hd (J0 hi (J0 hj hh2))))
   have hh6:h≤1000000:=by omega
   clear hsr gx gh gv hd hh2 hz hq1 hq2 hq3 hq4 hmi hjb hi hj;go_wp2_with (fail)
   refine wp_region_quiet_below (by kernel_rfl) (by kernel_rfl) ?_
   repeat(go_big_quiet_step (with_reducible exact cc _ _))
   refine wpQuiet_nil ?_;intro _ hw';obtain⟨⟨dq,osq⟩,hw''⟩:=hw';subst hw'';have HS2:=J1 (HS.out.below (below_regrown wr dq osq));clear y1 y2 cc;generalize grow (redrawn wr dq) osq=w7 at HS2 ⊢
   by_cases hd0:d<0
   ·go_wp2_with (fail)
    go_roundw
    case rel =>
     obtain⟨gv,hd,hi,hj,hh2⟩:=HV.out
     exact⟨h+1,j,by go_num,rfl,by omega,hj6,J1 (hh.out.up HF.out hi hj (by rw[HP.out];exact⟨v,gv,by rw[←hd];exact hd0⟩)),HS2⟩
    case measure=>obtain⟨gv,hd,hi,hj,hh2⟩:=HV.out;simp[intOf];omega
   ·have hd1:¬(d<0):=hd0;go_wp2_with (fail)
    go_roundw
    case rel =>
     obtain⟨gv,hd,hi,hj,hh2⟩:=HV.out
     refine⟨i,h,rfl,by go_num,hi6,by omega,J1 (hh.out.down HF.out hi hj ?_),HS2⟩
     rw[HP.out];rintro⟨v',hv',hlt'⟩;rw[gv]at hv'
     cases hv'
     rw[←hd]at hlt';exact hd0 hlt'
    case measure=>obtain⟨gv,hd,hi,hj,hh2⟩:=HV.out;simp[intOf];omega
  ·have hij:=hh.out.m;have hmi:=hh.out.l;have hib:=hh.out.h;obtain⟨hq1,hq2,hq3,hq4⟩:=HQ.out
   obtain⟨i1,hi1⟩:∃i1,i=i1+1:=⟨i-1,by omega⟩
   have e5:(i:Int)-1=(i1:Int):=by omega
   have hai:a≤i1:=by omega
   have hib2:i1≤1000000:=by omega
   have HI:=J1 (J0 hi1 (show i=j by omega))
   have H1:Hid (Srt w0 g wr (P++(V.take (a-a)++(x::(V.drop (a-a)++S))))):=J1 (by rw[Nat.sub_self];simpa using hz.out)
   clear hij hmi hib hq1 hq2 hq3 hq4 hi1 hz;go_wp2_with (fail)
   go_loopw [13] (fun s wr=>∃(k:Nat),s=.int .i64 k∧k≤i1∧Hid (a≤k)∧Hid (Srt w0 g wr (P++(V.take (k-a)++(x::(V.drop (k-a)++S)))))) (fun s _=>i1-(intOf s).toNat)
   case atStart=>exact⟨a,rfl,hai,J1 (C3 _),H1⟩
   case round =>
    obtain⟨k,rfl,hki,hak,hz⟩:=hrel
    by_cases hlt2:k<i1
    ·obtain⟨hq1,hq2,hq3,hq4⟩:=HQ.out;obtain⟨hi1,hij⟩:=HI.out;have hak1:=hak.out;have hib:=hh.out.h
     obtain⟨v,gv⟩:∃v,V[k-a]?=some v:=⟨V[k-a]'(by omega),A8 _⟩
     obtain⟨D,hD⟩:∃D,D=P++(V.take (k-a)++(x::(V.drop (k-a)++S))):=⟨_,rfl⟩
     have eD:D=(P++V.take (k-a))++x::([]++v::(V.drop (k-a+1)++S)):=by rw[hD,A3B gv];simp
     have l1:k=(P++V.take (k-a)).length:=by rw[C6,E4];omega
     have l2:k+1=(P++V.take (k-a)).length+1+([]:List Itm).length:=by rw[←l1];rfl
     obtain⟨g1,g2⟩:=Y9 eD l1 l2
     have hsw:So.swap D k (k+1)=P++(V.take (k+1-a)++(x::(V.drop (k+1-a)++S))):=by
      have e:So.swap D k (k+1)=So.swap D (P++V.take (k-a)).length ((P++V.take (k-a)).length+1+([]:List Itm).length):=by rw[←l1];rfl
      rw[e,eD,So.swap_at,show k+1-a=k-a+1 by omega,A23 gv];simp
     have hsr:=hz.out;rw[←hD]at hsr;obtain⟨A1,n1,c1,A2,n2,c2,q3,y1,y2,z1,z3,y3,HSW⟩:=hsr.swapping g1 g2;rw[hsw]at HSW;obtain⟨k2,hk2⟩:∃k2,k2=k+1:=⟨_,rfl⟩
     have ek:(k:Int)+1=(k2:Int):=by omega
     rw[←hk2]at y2 z3 y3 HSW
     have i1':(k:Int)<(N:Int):=by omega
     have i2':(k2:Int)<(N:Int):=by omega
     have HK:=J1 hk2;clear eD l1 l2 hsw hsr hz g1 g2 gv hD hq1 hq2 hq3 hq4 hi1 hij hak1 hib hk2;go_wp2_with (fail)
     go_region
     go_wp2_with (fail)
     go_roundw
     case rel=>have hk2:=HK.out;exact⟨k2,by go_num,by omega,J1 (by have:=hak.out;omega),J1 (HSW.out _)⟩
     case measure=>have hk2:=HK.out;simp[intOf];omega
    ·have hres:=J1 (show ∃R,R.Perm ([x]++V)∧So.Ord icm R∧Srt w0 g wr (P++(R++S)) by
      obtain⟨hq1,hq2,hq3,hq4⟩:=HQ.out;obtain⟨hi1,hij⟩:=HI.out;have hak1:=hak.out;have hmi:=hh.out.l;have hib:=hh.out.h
      obtain rfl:k=i1:=by omega
      have hcut:i-m=k-a:=by omega
      have yes:∀v∈V.take (k-a),icm v x<0:=by
       intro v hv;obtain⟨q,hq,rfl⟩:=F9.1 hv;rw[E4]at hq
       have:=hh.out.yes (m+q) (by omega) (by omega)
       rw[HP.out]at this;obtain⟨v,hv2,hlt⟩:=this
       rw[show m+q-m=q by omega,A8 (by omega)]at hv2
       have e:=F0 hv2;rw[List.getElem_take,e];exact hlt
      have no:∀v∈V.drop (k-a),So.Le icm x v:=by
       intro v hv hlt;obtain⟨q,hq,rfl⟩:=F9.1 hv;rw[List.length_drop]at hq
       refine hh.out.no (m+(k-a)+q) (by omega) (by omega) ?_
       rw[HP.out]
       refine⟨V[k-a+q],?_,by rw[List.getElem_drop]at hlt;exact hlt⟩
       rw[show m+(k-a)+q-m=k-a+q by omega]
       exact A8 _
      obtain⟨o,pm⟩:=So.merged T4 (U:=[x]) (V:=V) (R1:=V.take (k-a)) (R2:=x::V.drop (k-a)) (i:=0) (j:=k-a) (So.Ord.one x) HO.out (by omega) (by omega) (fun _ _ h=>absurd h (by omega))
       (fun u y hj hu hy=>by
        simp at hy
        subst hy
        exact So.Le.of_lt T4 (yes u (C8 (i:=k-a-1) (by rw[List.getElem?_take,if_pos (by omega)];exact hu))))
       (by simp) (by simp) (HO.out.take _) (List.pairwise_cons.2 ⟨no,HO.out.drop _⟩)
      exact⟨_,pm,o,by have:=hz.out;simpa using this⟩)
     have hge:¬(k<i1):=hlt2;clear hz;go_wp2_with (fail)
     go_end0
     exact⟨rfl,hres.out⟩
theorem A9L (w0:World) (g:Nat) (P U:List Itm) (y:Itm) (S:List Itm) (N c:Nat) (a m b:Int) (w:World) (hN:N=(P++(U++([y]++S))).length) (ha:a=P.length) (hm:m=P.length+U.length) (hb:b=P.length+U.length+1) (hU1:1<U.length) (oU:So.Ord icm U) (hs:N≤1000000) (h:Srt w0 g w (P++(U++([y]++S)))) :
  Calls Tryz.prog 128 #[.slice (some ⟨g,0,none⟩) N c,a,m,b,.func (.func 36) #[] #[]] w (A2X w0 g P U [y] S):=by
 obtain⟨a,rfl⟩:∃a':Nat,a=a':=⟨_,ha⟩
 obtain⟨m,rfl⟩:∃m':Nat,m=m':=⟨P.length+U.length,by omega⟩
 obtain⟨b,rfl⟩:∃b':Nat,b=b':=⟨P.length+U.length+1,by omega⟩
 have hN2:N=a+U.length+1+S.length:=by rw[hN];simp only[C6,List.length_singleton];omega
 have e0:¬((m:Int)-(a:Int)=1):=by omega
 have e0':((m:Int)-(a:Int) == 1)=false:=by simpa using e0
 have e1:(b:Int)-(m:Int)=1:=by omega
 have HQ:=J1 (show m=a+U.length∧a=P.length∧b=m+1∧b≤N by omega)
 obtain⟨p,hp⟩:∃p:Nat→Prop,p=fun k=>∃u,U[k-a]?=some u∧So.Le icm u y:=⟨_,rfl⟩
 have hfall:So.Falls p a m:=by
  rw[hp];rintro k h hk hkh hb ⟨u,hu,huy⟩
  have hkl:k-a<U.length:=by omega
  exact⟨_,A8 hkl,So.Le.trans T4 (oU.at_ T4 (show k-a≤h-a by omega) (A8 hkl) hu) huy⟩
 have HP:=J1 hp;have HF:=J1 hfall;have HO:=J1 oU;have H0:=J1 h
 have ham:a≤m:=by omega
 have hm6:m≤1000000:=by omega
 have ha6:a≤1000000:=by omega
 have hb6:b≤1000000:=by omega
 clear hN2 hN ha hm hb hp hfall oU h hU1;go_enter Tryz.func128,Tryz.ntmps128;go_wp2_with (fail)
 go_loopw [14,15] (fun s t wr=>∃(i j:Nat),s=.int .i64 i∧t=.int .i64 j∧i≤1000000∧j≤1000000∧Hid (So.Half p a m i j)∧Hid (Srt w0 g wr (P++(U++([y]++S))))) (fun s t _=>(intOf t).toNat-(intOf s).toNat)
 case atStart=>exact⟨a,m,rfl,rfl,ha6,hm6,J1 (So.Half.start ham),H0⟩
 case round =>
  obtain⟨i,j,rfl,rfl,hi6,hj6,hh,hz⟩:=hrel
  by_cases hlt:i<j
  ·obtain⟨h,hh2⟩:∃h,h=(i+j) / 2:=⟨_,rfl⟩
   have eh:((i:Int)+(j:Int)) / 2=(h:Int):=by omega
   obtain⟨hi,hj⟩:i≤h∧h<j:=by omega
   obtain⟨hq1,hq2,hq3,hq4⟩:=HQ.out;have hmi:=hh.out.l;have hjb:=hh.out.h
   obtain⟨u,gu⟩:∃u,U[h-a]?=some u:=⟨U[h-a]'(by omega),A8 _⟩
   have hsr:=hz.out
   have gy:(P++(U++([y]++S)))[m]?=some y:=by
    rw[←D4]
    exact A2q (k:=0) (by rw[C6];omega) rfl
   have gh:(P++(U++([y]++S)))[h]?=some u:=A2q (k:=h-a) (by omega) gu
   have cc:=N7 (hsr.cmps gy gh);obtain⟨d,hd⟩:∃d,d=icm y u:=⟨_,rfl⟩;rw[←hd]at cc;have y1:=cell_regrown (hsr.cell gh);have y2:=cell_regrown (hsr.cell gy)
   have i1:(h:Int)<(N:Int):=by omega
   have i2:(m:Int)<(N:Int):=by omega
   have HS:=J1 hsr;have HV:=J1 (J0 gu (J0 hd (J0 hi (J0 hj hh2))))
   have hh6:h≤1000000:=by omega
   clear hsr gy gh gu hd hh2 hz hq1 hq2 hq3 hq4 hmi hjb hi hj;go_wp2_with (fail)
   refine wp_region_quiet_below (by kernel_rfl) (by kernel_rfl) ?_
   repeat(go_big_quiet_step (with_reducible exact cc _ _))
   refine wpQuiet_nil ?_;intro _ hw';obtain⟨⟨dq,osq⟩,hw''⟩:=hw';subst hw'';have HS2:=J1 (HS.out.below (below_regrown wr dq osq));clear y1 y2 cc;generalize grow (redrawn wr dq) osq=w7 at HS2 ⊢;generalize hbb:decide (d<0)=bb
   by_cases hd1:d<0
   ·obtain rfl:bb=true:=by rw[←hbb];simpa using hd1
    have HD0:=J1 hd1;clear hbb hd1;go_wp2_with (fail)
    go_roundw
    case rel =>
     obtain⟨gu,hd,hi,hj,hh2⟩:=HV.out
     refine⟨i,h,rfl,by go_num,hi6,by omega,J1 (hh.out.down HF.out hi hj ?_),HS2⟩
     rw[HP.out];rintro⟨u',hu',hlt'⟩;rw[gu]at hu'
     cases hu'
     unfold So.Le at hlt';rw[←hd]at hlt';exact hlt' HD0.out
    case measure=>obtain⟨gu,hd,hi,hj,hh2⟩:=HV.out;simp[intOf];omega
   ·obtain rfl:bb=false:=by rw[←hbb];simpa using hd1
    have HD0:=J1 hd1;clear hbb hd1;go_wp2_with (fail)
    go_roundw
    case rel =>
     obtain⟨gu,hd,hi,hj,hh2⟩:=HV.out
     exact⟨h+1,j,by go_num,rfl,by omega,hj6,J1 (hh.out.up HF.out hi hj (by rw[HP.out];exact⟨u,gu,by unfold So.Le;rw[←hd];exact HD0.out⟩)),HS2⟩
    case measure=>obtain⟨gu,hd,hi,hj,hh2⟩:=HV.out;simp[intOf];omega
  ·have hij:=hh.out.m;have hai:=hh.out.l;have him:=hh.out.h;obtain⟨hq1,hq2,hq3,hq4⟩:=HQ.out
   have hi7:i≤m:=by omega
   have HI:=J1 (show i=j by omega)
   have H1:Hid (Srt w0 g wr (P++(U.take (m-a)++(y::(U.drop (m-a)++S))))):=J1 (by rw[C7 (by omega),List.drop_of_length_le (by omega)];simpa using hz.out)
   clear hij hai him hq1 hq2 hq3 hq4 hz;go_wp2_with (fail)
   go_loopw [17] (fun s wr=>∃(k:Nat),s=.int .i64 k∧i≤k∧k≤m∧Hid (Srt w0 g wr (P++(U.take (k-a)++(y::(U.drop (k-a)++S)))))) (fun s _=>(intOf s).toNat)
   case atStart=>exact⟨m,rfl,hi7,C3 _,H1⟩
   case round =>
    obtain⟨k,rfl,hki,hkm,hz⟩:=hrel
    by_cases hlt2:i<k
    ·obtain⟨hq1,hq2,hq3,hq4⟩:=HQ.out;have hai:=hh.out.l
     obtain⟨k2,hk2⟩:∃k2,k=k2+1:=⟨k-1,by omega⟩
     have ek:(k:Int)-1=(k2:Int):=by omega
     obtain⟨u,gu⟩:∃u,U[k2-a]?=some u:=⟨U[k2-a]'(by omega),A8 _⟩
     obtain⟨D,hD⟩:∃D,D=P++(U.take (k-a)++(y::(U.drop (k-a)++S))):=⟨_,rfl⟩
     have eD:D=(P++U.take (k2-a))++u::([]++y::(U.drop (k-a)++S)):=by rw[hD,show k-a=k2-a+1 by omega,A23 gu];simp
     have l1:k2=(P++U.take (k2-a)).length:=by rw[C6,E4];omega
     have l2:k=(P++U.take (k2-a)).length+1+([]:List Itm).length:=by rw[←l1];exact hk2
     obtain⟨g1,g2⟩:=Y9 eD l1 l2
     have hsw:So.swap D k k2=P++(U.take (k2-a)++(y::(U.drop (k2-a)++S))):=by
      have e:So.swap D k2 k=So.swap D (P++U.take (k2-a)).length ((P++U.take (k2-a)).length+1+([]:List Itm).length):=by rw[←l1,hk2];rfl
      rw[A24 D (by omega),e,eD,So.swap_at,A3B gu,show k-a=k2-a+1 by omega];simp
     have hsr:=hz.out;rw[←hD]at hsr;obtain⟨A1,n1,c1,A2,n2,c2,q3,y1,y2,z1,z3,y3,HSW⟩:=hsr.swapping g2 g1;rw[hsw]at HSW
     have i1':(k:Int)<(N:Int):=by omega
     have i2':(k2:Int)<(N:Int):=by omega
     have HK:=J1 hk2;clear eD l1 l2 hsw hsr hz g1 g2 gu hD hq1 hq2 hq3 hq4 hai hk2;go_wp2_with (fail)
     go_region
     go_wp2_with (fail)
     go_roundw
     case rel=>have hk2:=HK.out;exact⟨k2,by go_num,by omega,by omega,J1 (HSW.out _)⟩
     case measure=>have hk2:=HK.out;simp[intOf];omega
    ·have hres:=J1 (show ∃R,R.Perm (U++[y])∧So.Ord icm R∧Srt w0 g wr (P++(R++S)) by
      obtain⟨hq1,hq2,hq3,hq4⟩:=HQ.out;have hij:=HI.out;have hai:=hh.out.l
      obtain rfl:k=i:=by omega
      have yes:∀u∈U.take (k-a),So.Le icm u y:=by
       intro u hu;obtain⟨q,hq,rfl⟩:=F9.1 hu;rw[E4]at hq
       have:=hh.out.yes (a+q) (by omega) (by omega)
       rw[HP.out]at this;obtain⟨u,hu2,hlt⟩:=this
       rw[show a+q-a=q by omega,A8 (by omega)]at hu2
       cases hu2;rw[List.getElem_take];exact hlt
      have no:∀u,U[k-a]?=some u→So.Le icm y u:=by
       intro u hu;have hl:=(D8.1 hu).1
       have hno:=hh.out.no k (by omega) (by omega)
       rw[HP.out]at hno;refine So.Le.of_lt T4 (G9 fun hn=>hno ⟨u,hu,hn⟩)
      obtain⟨o,pm⟩:=So.merged T4 (U:=U) (V:=[y]) (R1:=U.take (k-a)++[y]) (R2:=U.drop (k-a)) (i:=k-a) (j:=1) HO.out (So.Ord.one y) (by omega) (by simp) (fun _ _ _ _ h=>by simp at h)
       (fun z u _ hz hu=>by
        simp at hz
        subst hz;exact no u hu)
       (by simp) (by simp) (So.Ord.append.2 ⟨HO.out.take _,So.Ord.one y,fun u hu z hz=>by rw[G4.1 hz];exact yes u hu⟩) (HO.out.drop _)
      exact⟨_,pm,o,by have:=hz.out;simpa using this⟩)
     have hge:¬(i<k):=hlt2;clear hz;go_wp2_with (fail)
     go_end0
     exact⟨rfl,hres.out⟩
abbrev Symm (w0:World) (g n:Nat):Prop:=∀(P U V S:List Itm) (N c:Nat) (a m b:Int) (w:World),U.length+V.length≤n→N=(P++(U++(V++S))).length→a=P.length→m=P.length+U.length→b=P.length+U.length+V.length→0<U.length→0<V.length→So.Ord icm U→So.Ord icm V→N≤1000000→Srt w0 g w (P++(U++(V++S))) →
  Calls Tryz.prog 128 #[.slice (some ⟨g,0,none⟩) N c,a,m,b,.func (.func 36) #[] #[]] w (A2X w0 g P U V S)
theorem A7p {a m b mid nn:Nat} (hmid:mid=(a+b) / 2) (hnn:nn=mid+m) (ham:a<m) (hmb:m<b):∃lo hi,((mid<m∧lo+b=nn∧hi=mid)∨(¬mid<m∧lo=a∧hi=m))∧a≤lo∧lo≤hi∧hi≤m∧nn≤b+lo∧m+hi≤nn∧(lo=a∨nn=b+lo)∧(hi=m∨nn=m+hi):=by
 by_cases h:mid<m
 ·exact⟨nn-b,mid,.inl ⟨h,by omega,rfl⟩,by omega,by omega,by omega,by omega,by omega,by omega,by omega⟩
 ·exact⟨a,m,.inr ⟨h,rfl,rfl⟩,by omega,by omega,by omega,by omega,by omega,by omega,by omega⟩
theorem A9K (w0:World) (g n:Nat) (ih:Symm w0 g n) (P U V S:List Itm) (N c:Nat) (a m b:Int) (w:World) (hlen:U.length+V.length≤n+1) (hN:N=(P++(U++(V++S))).length) (ha:a=P.length) (hm:m=P.length+U.length) (hb:b=P.length+U.length+V.length) (hU1:1<U.length) (hV1:1<V.length) (oU:So.Ord icm U) (oV:So.Ord icm V) (hs:N≤1000000) (h:Srt w0 g w (P++(U++(V++S)))) :
  Calls Tryz.prog 128 #[.slice (some ⟨g,0,none⟩) N c,a,m,b,.func (.func 36) #[] #[]] w (A2X w0 g P U V S):=by
 obtain⟨a,rfl⟩:∃a':Nat,a=a':=⟨_,ha⟩
 obtain⟨m,rfl⟩:∃m':Nat,m=m':=⟨P.length+U.length,by omega⟩
 obtain⟨b,rfl⟩:∃b':Nat,b=b':=⟨P.length+U.length+V.length,by omega⟩
 have hN2:N=a+U.length+V.length+S.length:=by rw[hN];simp only[C6];omega
 have e0:((m:Int)-(a:Int) == 1)=false:=by simp;omega
 have e0':¬((m:Int)-(a:Int)=1):=by omega
 have e1:((b:Int)-(m:Int) == 1)=false:=by simp;omega
 have e1':¬((b:Int)-(m:Int)=1):=by omega
 obtain⟨mid,hmid⟩:∃mid,mid=(a+b) / 2:=⟨_,rfl⟩
 have em:((a:Int)+(b:Int)) / 2=(mid:Int):=by omega
 obtain⟨nn,hnn⟩:∃nn,nn=mid+m:=⟨_,rfl⟩
 have en:(mid:Int)+(m:Int)=(nn:Int):=by omega
 obtain⟨pp,hpp⟩:∃pp,nn=pp+1:=⟨nn-1,by omega⟩
 have ep:(nn:Int)-1=(pp:Int):=by omega
 obtain⟨lo,hi,hlh,f1,f2,f3,f4,f5,f6,f7⟩:=A7p hmid hnn (show a<m by omega) (show m<b by omega)
 have HQ:=J1 (show m=a+U.length∧a=P.length∧b=m+V.length∧b≤N∧N=b+S.length∧1<U.length∧1<V.length by omega)
 have HF:=J1 (J0 f1 (J0 f2 (J0 f3 (J0 f4 (J0 f5 (J0 f6 f7))))));have HM:=J1 (J0 hmid (J0 hnn hpp));obtain⟨p,hp⟩:∃p:Nat→Prop,p=fun k=>∃u v,U[k-a]?=some u∧V[pp-k-m]?=some v∧So.Le icm u v:=⟨_,rfl⟩
 have hfall:So.Falls p lo hi:=by
  rw[hp];rintro k h hk hkh hb ⟨u,v,hu,hv,huv⟩
  have hkl:k-a<U.length:=by omega
  have hkv:pp-k-m<V.length:=by omega
  exact⟨_,_,A8 hkl,A8 hkv,So.Le.trans T4 (So.Le.trans T4 (oU.at_ T4 (show k-a≤h-a by omega) (A8 hkl) hu) huv) (oV.at_ T4 (show pp-h-m≤pp-k-m by omega) hv (A8 hkv))⟩
 have HP:=J1 hp;have HFA:=J1 hfall;have HO:=J1 (J0 oU oV);have HLH:=J1 hlh;have HLE:=J1 hlen;have H0:=J1 h;have IH:=J1 ih
 have a6:a≤1000000:=by omega
 have m6:m≤1000000:=by omega
 have b6:b≤1000000:=by omega
 have mid6:mid≤1000000:=by omega
 have nn6:nn≤2000000:=by omega
 have pp6:pp≤2000000:=by omega
 have lo6:lo≤1000000:=by omega
 have hi6:hi≤1000000:=by omega
 have pp1:1≤nn:=by omega
 clear hN2 hN ha hm hb hp hfall oU oV h hU1 hV1 hmid hnn hpp f1 f2 f3 f4 f5 f6 f7 hlh hlen ih;go_enter Tryz.func128,Tryz.ntmps128
 go_upto_if 140 with(fail)
 go_cut [20,21] from 25 (fun s t wr=>s=.int .i64 lo∧t=.int .i64 hi∧Hid (Srt w0 g wr (P++(U++(V++S)))))
 case first =>
  rcases HLH.out with⟨h1,h2,h3⟩ | ⟨h1,h2,h3⟩
  ·have es:(nn:Int)-(b:Int)=(lo:Int):=by omega
   have eh:=J1 h3
   have g1:(mid:Int)<(m:Int):=by omega
   clear h1 h2 h3;go_wp2_with (fail)
   go_meet
   case rel=>exact⟨rfl,by rw[eh.out],H0⟩
  ·have eh:=J1 (J0 h2 h3)
   have g1:¬(mid:Int)<(m:Int):=by omega
   clear h1 h2 h3;go_wp2_with (fail)
   go_meet
   case rel=>exact⟨by rw[eh.out.1],by rw[eh.out.2],H0⟩
 obtain⟨rfl,rfl,hz0⟩:=hcut;clear em en;have hlohi:lo≤hi:=HF.out.2.1;go_wp2_with (fail)
 go_loopw [20,21] (fun s t wr=>∃(i j:Nat),s=.int .i64 i∧t=.int .i64 j∧i≤1000000∧j≤1000000∧Hid (So.Half p lo hi i j)∧Hid (Srt w0 g wr (P++(U++(V++S))))) (fun s t _=>(intOf t).toNat-(intOf s).toNat)
 case atStart=>exact⟨lo,hi,rfl,rfl,lo6,hi6,J1 (So.Half.start hlohi),hz0⟩
 case round =>
  obtain⟨i,j,rfl,rfl,hi7,hj6,hh,hz⟩:=hrel
  by_cases hlt:i<j
  ·as_aux_lemma =>
   obtain⟨h,hh2⟩:∃h,h=(i+j) / 2:=⟨_,rfl⟩
   have eh:((i:Int)+(j:Int)) / 2=(h:Int):=by omega
   obtain⟨hi,hj⟩:i≤h∧h<j:=by omega
   obtain⟨hq1,hq2,hq3,hq4,hq5,hq6,hq7⟩:=HQ.out;obtain⟨f1,f2,f3,f4,f5,f6,f7⟩:=HF.out;obtain⟨hmid,hnn,hpp⟩:=HM.out;have hmi:=hh.out.l;have hjb:=hh.out.h;obtain⟨q,hq⟩:∃q,q=pp-h:=⟨_,rfl⟩
   have eq:(pp:Int)-(h:Int)=(q:Int):=by omega
   obtain⟨u,gu⟩:∃u,U[h-a]?=some u:=⟨U[h-a]'(by omega),A8 _⟩
   obtain⟨v,gv⟩:∃v,V[q-m]?=some v:=⟨V[q-m]'(by omega),A8 _⟩
   have hsr:=hz.out
   have gq:(P++(U++(V++S)))[q]?=some v:=by
    rw[←D4]
    exact A2q (k:=q-m) (by rw[C6];omega) gv
   have gh:(P++(U++(V++S)))[h]?=some u:=A2q (k:=h-a) (by omega) gu
   have cc:=N7 (hsr.cmps gq gh);obtain⟨d,hd⟩:∃d,d=icm v u:=⟨_,rfl⟩;rw[←hd]at cc;have y1:=cell_regrown (hsr.cell gh);have y2:=cell_regrown (hsr.cell gq)
   have i1:(h:Int)<(N:Int):=by omega
   have i2:(q:Int)<(N:Int):=by omega
   have HS:=J1 hsr;rw[hq]at gv;have HV:=J1 (J0 gu (J0 gv (J0 hd (J0 hi (J0 hj hh2)))))
   have hh6:h≤1000000:=by omega
   clear hsr gq gh gu gv hd hh2 hz hq1 hq2 hq3 hq4 hq5 hq6 hq7 hmi hjb hi hj f1 f2 f3 f4 f5 f6 f7 hmid hnn hpp hq hlohi;go_wp2_with (fail)
   refine wp_region_quiet_below (by kernel_rfl) (by kernel_rfl) ?_
   repeat(go_big_quiet_step (with_reducible exact cc _ _))
   refine wpQuiet_nil ?_;intro _ hw';obtain⟨⟨dq,osq⟩,hw''⟩:=hw';subst hw'';have HS2:=J1 (HS.out.below (below_regrown wr dq osq));clear y1 y2 cc;generalize grow (redrawn wr dq) osq=w7 at HS2 ⊢;generalize hbb:decide (d<0)=bb
   by_cases hd1:d<0
   ·obtain rfl:bb=true:=by rw[←hbb];simpa using hd1
    have HD0:=J1 hd1;clear hbb hd1;go_wp2_with (fail)
    go_roundw
    case rel =>
     obtain⟨gu,gv,hd,hi,hj,hh2⟩:=HV.out
     refine⟨i,h,rfl,by go_num,hi7,by omega,J1 (hh.out.down HFA.out hi hj ?_),HS2⟩
     rw[HP.out];rintro⟨u',v',hu',hv',hlt'⟩;rw[gu]at hu';rw[gv]at hv'
     cases hu'
     cases hv'
     unfold So.Le at hlt';rw[←hd]at hlt';exact hlt' HD0.out
    case measure=>obtain⟨gu,gv,hd,hi,hj,hh2⟩:=HV.out;simp[intOf];omega
   ·obtain rfl:bb=false:=by rw[←hbb];simpa using hd1
    have HD0:=J1 hd1;clear hbb hd1;go_wp2_with (fail)
    go_roundw
    case rel =>
     obtain⟨gu,gv,hd,hi,hj,hh2⟩:=HV.out
     exact⟨h+1,j,by go_num,rfl,by omega,hj6,J1 (hh.out.up HFA.out hi hj (by rw[HP.out];exact⟨u,v,gu,gv,by unfold So.Le;rw[←hd];exact HD0.out⟩)),HS2⟩
    case measure=>obtain⟨gu,gv,hd,hi,hj,hh2⟩:=HV.out;simp[intOf];omega
  ·as_aux_lemma =>
   obtain⟨hq1,hq2,hq3,hq4,hq5,hq6,hq7⟩:=HQ.out;obtain⟨f1,f2,f3,f4,f5,f6,f7⟩:=HF.out;obtain⟨hmid,hnn,hpp⟩:=HM.out;have hij:=hh.out.m;have hmi:=hh.out.l;have hjb:=hh.out.h;obtain⟨fin,hfin⟩:∃fin,fin=nn-i:=⟨_,rfl⟩
   have ee:(nn:Int)-(i:Int)=(fin:Int):=by omega
   have hm1:∀x y,0<i-a→U[i-a-1]?=some x→V[fin-m]?=some y→So.Le icm x y:=by
    intro x y h0 hx hy;have hyl:=(D8.1 hy).1
    have:=hh.out.yes (i-1) (by omega) (by omega)
    rw[HP.out]at this;obtain⟨u,v,hu,hv,huv⟩:=this
    rw[show i-1-a=i-a-1 by omega,hx]at hu
    rw[show pp-(i-1)-m=fin-m by omega,hy]at hv
    cases hu;cases hv;exact huv
   have hm2:∀x y,0<fin-m→V[fin-m-1]?=some x→U[i-a]?=some y→So.Le icm x y:=by
    intro x y h0 hx hy;have hyl:=(D8.1 hy).1
    have:=hh.out.no i (by omega) (by omega)
    rw[HP.out]at this;refine So.Le.of_lt T4 (G9 fun hn=>this ⟨y,x,hy,?_,hn⟩)
    rw[show pp-i-m=fin-m-1 by omega]
    exact hx
   obtain⟨U1,hU1⟩:∃U1,U1=U.take (i-a):=⟨_,rfl⟩;obtain⟨U2,hU2⟩:∃U2,U2=U.drop (i-a):=⟨_,rfl⟩;obtain⟨V1,hV1⟩:∃V1,V1=V.take (fin-m):=⟨_,rfl⟩;obtain⟨V2,hV2⟩:∃V2,V2=V.drop (fin-m):=⟨_,rfl⟩
   have eU:U1++U2=U:=by rw[hU1,hU2];exact List.take_append_drop _ _
   have eV:V1++V2=V:=by rw[hV1,hV2];exact List.take_append_drop _ _
   have l1:U1.length=i-a:=by rw[hU1,E4];omega
   have l2:U2.length=m-i:=by rw[hU2,List.length_drop];omega
   have l3:V1.length=fin-m:=by rw[hV1,E4];omega
   have l4:V2.length=b-fin:=by rw[hV2,List.length_drop];omega
   have HMG:=J1 (show ∀R1 R2:List Itm,R1.Perm (U1++V1)→R2.Perm (U2++V2)→So.Ord icm R1→So.Ord icm R2→So.Ord icm (R1++R2)∧(R1++R2).Perm (U++V) from fun R1 R2 p1 p2 o1 o2=>by
    rw[hU1,hV1]at p1;rw[hU2,hV2]at p2
    exact So.merged T4 HO.out.1 HO.out.2 (by omega) (by omega) hm1 hm2 p1 p2 o1 o2)
   have HOO:=J1 (show So.Ord icm U1∧So.Ord icm U2∧So.Ord icm V1∧So.Ord icm V2 by
    rw[hU1,hU2,hV1,hV2];exact⟨HO.out.1.take _,HO.out.1.drop _,HO.out.2.take _,HO.out.2.drop _⟩)
   have hsr:=hz.out;rw[←eU,←eV]at hsr
   have HZ:=J1 (show Srt w0 g wr (P++(U1++(U2++(V1++(V2++S))))) by simpa only[D4]using hsr)
   have HL:=J1 (show P.length=a∧a≤i∧i≤m∧m≤fin∧fin≤b∧i≤mid∧mid≤fin∧U1.length=i-a∧U2.length=m-i∧V1.length=fin-m∧V2.length=b-fin∧b+S.length=N∧(i-a)+(fin-m)=mid-a∧(b-a≤n+1)∧a<mid∧mid<b by
    have:=HLE.out
    refine⟨by omega,by omega,by omega,by omega,by omega,by omega,by omega,l1,l2,l3,l4,by omega,by omega,by omega,by omega,by omega⟩)
   clear hq1 hq2 hq3 hq4 hq5 hq6 hq7 f1 f2 f3 f4 f5 f6 f7 hmid hnn hpp hij hmi hjb hfin hm1 hm2 hU1 hU2 hV1 hV2 eU eV l1 l2 l3 l4 hsr hz hlohi hz0;have hge:¬(i<j):=hlt
   have fin6:fin≤1000000:=by have:=HL.out;omega
   obtain⟨b1,hb1⟩:∃q:Bool,q=(decide (i<m)&&decide (m<fin)):=⟨_,rfl⟩;have Hb1:=J1 hb1;clear hb1
   go_upto_region 39 with(fail)
   go_cut [185] from 25 (fun s wr'=>s=.bool b1∧wr=wr')
   case first =>
    by_cases g1:i<m
    ·by_cases g2:m<fin
     ·have hq:b1=true:=by rw[Hb1.out];simp[g1,g2]
      subst hq;go_wp2_with (fail)
      go_meet
      case rel=>exact⟨rfl,rfl⟩
     ·have hq:b1=false:=by rw[Hb1.out];simp[g1,g2]
      subst hq;go_wp2_with (fail)
      go_meet
      case rel=>exact⟨rfl,rfl⟩
    ·have hq:b1=false:=by rw[Hb1.out];simp[g1]
     subst hq;go_wp2_with (fail)
     go_meet
     case rel=>exact⟨rfl,rfl⟩
   obtain⟨rfl,rfl⟩:=hcut
   go_upto_if 185 with(fail)
   go_cut [] from 25 (fun wr=>Hid (Srt w0 g wr (P++(U1++(V1++(U2++(V2++S)))))))
   case first =>
    as_aux_lemma =>
    have hL:=HL.out;cases b1
    ·have hq:=Hb1.out
     have HW8:=J1 (show Srt w0 g wr (P++(U1++(V1++(U2++(V2++S))))) by
      by_cases g1:i<m
      ·have g2:¬m<fin:=by intro g2;simp[g1,g2]at hq
       have h0:V1=[]:=D6 (by omega)
       have:=HZ.out;rw[h0]at this ⊢;exact this
      ·have h0:U2=[]:=D6 (by omega)
       have:=HZ.out;rw[h0]at this ⊢;exact this)
     clear hL hq;go_wp2_with (fail)
     go_meet
     case rel=>exact HW8
    ·have hq:=Hb1.out
     obtain⟨g1,g2⟩:i<m∧m<fin:=by simpa using hq.symm
     ·have cr:=A5g w0 g (.func (.func 36) #[] #[]) (P++U1) U2 V1 (V2++S) N c (i:Int) (m:Int) (fin:Int) wr (by simp only[C6];omega) (by rw[C6];omega) (by rw[C6];omega) (by rw[C6];omega) (by omega) (by omega) hs (by simpa only[D4]using HZ.out)
      clear hL hq g1 g2;go_wp2_with (fail);refine cr.mono ?_;rintro E w8 ⟨rfl,hw8⟩
      have HW8:=J1 (show Srt w0 g w8 (P++(U1++(V1++(U2++(V2++S))))) by simpa only[D4]using hw8)
      clear cr hw8;go_wp2_with (fail)
      go_meet
      case rel=>exact HW8
   clear hge ee;have HC1:=hcut;clear hcut;obtain⟨b2,hb2⟩:∃q:Bool,q=(decide (a<i)&&decide (i<mid)):=⟨_,rfl⟩;have Hb2:=J1 hb2;clear hb2
   go_upto_region 41 with(fail)
   go_cut [199] from 25 (fun s wr'=>s=.bool b2∧wc=wr')
   case first =>
    by_cases g1:a<i
    ·by_cases g2:i<mid
     ·have hq:b2=true:=by rw[Hb2.out];simp[g1,g2]
      subst hq;go_wp2_with (fail)
      go_meet
      case rel=>exact⟨rfl,rfl⟩
     ·have hq:b2=false:=by rw[Hb2.out];simp[g1,g2]
      subst hq;go_wp2_with (fail)
      go_meet
      case rel=>exact⟨rfl,rfl⟩
    ·have hq:b2=false:=by rw[Hb2.out];simp[g1]
     subst hq;go_wp2_with (fail)
     go_meet
     case rel=>exact⟨rfl,rfl⟩
   obtain⟨rfl,rfl⟩:=hcut
   go_upto_if 199 with(fail)
   go_cut [] from 25 (fun wr=>Hid (∃R1:List Itm,R1.Perm (U1++V1)∧So.Ord icm R1∧Srt w0 g wr (P++(R1++(U2++(V2++S))))))
   case first =>
    as_aux_lemma =>
    have hL:=HL.out;cases b2
    ·have hq:=Hb2.out
     have HW8:=J1 (show ∃R1:List Itm,R1.Perm (U1++V1)∧So.Ord icm R1∧Srt w0 g wc (P++(R1++(U2++(V2++S)))) from⟨U1++V1,.refl _,by
      by_cases g1:a<i
      ·have g2:¬i<mid:=by intro g2;simp[g1,g2]at hq
       have h0:V1=[]:=D6 (by omega)
       rw[h0,F3];exact HOO.out.1
      ·have h0:U1=[]:=D6 (by omega)
       rw[h0,F1];exact HOO.out.2.2.1,by simpa only[D4]using HC1.out⟩)
     clear hL hq;go_wp2_with (fail)
     go_meet
     case rel=>exact HW8
    ·have hq:=Hb2.out
     obtain⟨g1,g2⟩:a<i∧i<mid:=by simpa using hq.symm
     ·have cr:=IH.out P U1 V1 (U2++(V2++S)) N c (a:Int) (i:Int) (mid:Int) wc (by omega) (by simp only[C6];omega) (by omega) (by omega) (by omega) (by omega) (by omega) HOO.out.1 HOO.out.2.2.1 hs HC1.out
      clear hL hq g1 g2;go_wp2_with (fail);refine cr.mono ?_;rintro E w8 ⟨rfl,hw8⟩;have HW8:=J1 hw8;clear cr hw8;go_wp2_with (fail)
      go_meet
      case rel=>exact HW8
   as_aux_lemma =>
   obtain⟨R1,p1,o1,hw8⟩:=hcut.out;have hL:=HL.out;have hR1:=p1.length_eq;rw[C6]at hR1
   by_cases g1:mid<fin
   ·by_cases g2:fin<b
    ·have cr:=IH.out (P++R1) U2 V2 S N c (mid:Int) (fin:Int) (b:Int) wc (by omega) (by simp only[C6];omega) (by rw[C6];omega) (by rw[C6];omega) (by rw[C6];omega) (by omega) (by omega) HOO.out.2.1 HOO.out.2.2.2 hs (by simpa only[D4]using hw8)
     have HP1:=J1 (J0 p1 o1);clear hL hw8 hR1 hcut p1 o1;go_wp2_with (fail);refine cr.mono ?_;rintro E w8 ⟨rfl,R2,p2,o2,hw9⟩
     have hres:=J1 (show ∃R,R.Perm (U++V)∧So.Ord icm R∧Srt w0 g w8 (P++(R++S)) from⟨R1++R2,(HMG.out R1 R2 HP1.out.1 p2 HP1.out.2 o2).2,(HMG.out R1 R2 HP1.out.1 p2 HP1.out.2 o2).1,by simpa only[D4]using hw9⟩)
     clear cr p2 o2 hw9;go_wp2_with (fail)
     go_end0
     exact⟨rfl,hres.out⟩
    ·have h0:V2=[]:=D6 (by omega)
     have o2:So.Ord icm (U2++V2):=by rw[h0,F3];exact HOO.out.2.1
     have hres:=J1 (show ∃R,R.Perm (U++V)∧So.Ord icm R∧Srt w0 g wc (P++(R++S)) from⟨R1++(U2++V2),(HMG.out R1 _ p1 (.refl _) o1 o2).2,(HMG.out R1 _ p1 (.refl _) o1 o2).1,by simpa only[D4]using hw8⟩)
     clear hL hw8 hR1 hcut p1 o1 o2 h0;go_wp2_with (fail)
     go_end0
     exact⟨rfl,hres.out⟩
   ·have h0:U2=[]:=D6 (by omega)
    have o2:So.Ord icm (U2++V2):=by rw[h0,F1];exact HOO.out.2.2.2
    have hres:=J1 (show ∃R,R.Perm (U++V)∧So.Ord icm R∧Srt w0 g wc (P++(R++S)) from⟨R1++(U2++V2),(HMG.out R1 _ p1 (.refl _) o1 o2).2,(HMG.out R1 _ p1 (.refl _) o1 o2).1,by simpa only[D4]using hw8⟩)
    clear hL hw8 hR1 hcut p1 o1 o2 h0;go_wp2_with (fail)
    go_end0
    exact⟨rfl,hres.out⟩
theorem A4A (w0:World) (g:Nat):∀n,Symm w0 g n:=by
 intro n
 induction n with
 | zero=>intro P U V S N c a m b w hl _ _ _ _ hU hV;omega
 | succ n ih =>
  intro P U V S N c a m b w hl hN ha hm hb hU hV oU oV hs h
  by_cases h1:U.length=1
  ·obtain⟨x,rfl⟩:=List.length_eq_one_iff.1 h1
   exact A9M w0 g P x V S N c a m b w hN ha (by simpa using hm) (by simpa using hb) oV hs h
  ·by_cases h2:V.length=1
   ·obtain⟨y,rfl⟩:=List.length_eq_one_iff.1 h2
    exact A9L w0 g P U y S N c a m b w hN ha hm (by simpa using hb) (by omega) oU hs h
   ·exact A9K w0 g n ih P U V S N c a m b w hl hN ha hm hb (by omega) (by omega) oU oV hs h
def Blks (B:Nat) (Bs:List (List Itm)):Prop:=∀X∈Bs,X.length=B∧So.Ord icm X
theorem Blks.snoc {B:Nat} {Bs:List (List Itm)} {X:List Itm} (h:Blks B Bs) (hl:X.length=B) (ho:So.Ord icm X):Blks B (Bs++[X]):=by
 intro Y hY
 rcases G3.1 hY with h1 | h1
 ·exact h Y h1
 ·rw[G4.1 h1];exact⟨hl,ho⟩
theorem A5b (w0:World) (g:Nat) (D0:List Itm) (N c:Nat) (w:World) (hN:N=D0.length) (hs:N≤1000000) (h:Srt w0 g w D0) :
  Calls Tryz.prog 105 #[.slice (some ⟨g,0,none⟩) N c,N,.func (.func 36) #[] #[]] w fun e w'=>e=.returned (.tuple #[])∧∃R,R.Perm D0∧So.Ord icm R∧Srt w0 g w' R:=by
 have HN:=J1 hN
 have H0:Hid (∃(Bs:List (List Itm)) (T:List Itm),Blks 20 Bs∧Bs.flatten.length=0∧(Bs.flatten++T).Perm D0∧Srt w0 g w (Bs.flatten++T)):=J1 ⟨[],D0,fun X hX=>by simp at hX,rfl,.refl _,h⟩
 have hs2:(N:Int)≤1000000:=by omega
 clear hN h;go_enter Tryz.func105,Tryz.ntmps105;go_wp2_with (fail)
 go_loopw [7,8] (fun s t wr=>∃(a:Nat),s=.int .i64 a∧t=.int .i64 ((a:Int)+20)∧a≤N∧Hid (∃(Bs:List (List Itm)) (T:List Itm),Blks 20 Bs∧Bs.flatten.length=a∧(Bs.flatten++T).Perm D0∧Srt w0 g wr (Bs.flatten++T))) (fun s _ _=>N-(intOf s).toNat)
 case atStart=>exact⟨0,rfl,rfl,E3 _,H0⟩
 case round =>
  obtain⟨a,rfl,rfl,ha,hz⟩:=hrel
  have i0:(a:Int)≤1000000:=by omega
  by_cases hlt:a+20≤N
  ·as_aux_lemma =>
   obtain⟨Bs,T,hB,hl,hp,hsr⟩:=hz.out;have hpl:=hp.length_eq;rw[C6,hl,←HN.out]at hpl;have eT:T=T.take 20++T.drop 20:=(List.take_append_drop _ _).symm
   have lT:(T.take 20).length=20:=by rw[E4];omega
   have i1:(a:Int)+20≤(N:Int):=by omega
   obtain⟨a2,ha2⟩:∃a2,a2=a+20:=⟨_,rfl⟩
   have e2:(a:Int)+20=(a2:Int):=by omega
   rw[eT]at hsr hp
   have ci:=A2j w0 g Bs.flatten (T.take 20) (T.drop 20) N c (a:Int) (a2:Int) wr (by rw[HN.out,←hp.length_eq]) (by omega) (by omega) hs hsr
   have HX:=J1 (J0 hB (J0 hl (J0 hp (J0 lT ha2))))
   have a26:a2≤N:=by omega
   clear hB hl hp hsr hpl eT lT ha2 hz;rw[e2];go_wp2_with (fail);refine ci.mono ?_;rintro E w1 ⟨rfl,R,pR,oR,hsr⟩;have HR:=J1 (J0 pR (J0 oR hsr));clear ci pR oR hsr;go_wp2_with (fail)
   go_roundw
   case rel =>
    obtain⟨hB,hl,hp,lT,ha2⟩:=HX.out;obtain⟨pR,oR,hsr⟩:=HR.out
    have hlR:R.length=20:=by rw[pR.length_eq,lT]
    refine⟨a2,rfl,rfl,a26,J1 ⟨Bs++[R],T.drop 20,hB.snoc hlR oR,?_,?_,?_⟩⟩
    ·rw[List.flatten_append,C6,hl];simp[hlR];omega
    ·refine List.Perm.trans ?_ hp;rw[List.flatten_append,D4];refine List.Perm.append_left _ ?_;simp only[List.flatten_cons,List.flatten_nil,F3];exact List.Perm.append_right _ pR
    ·rw[List.flatten_append,D4];simpa using hsr
   case measure=>obtain⟨hB,hl,hp,lT,ha2⟩:=HX.out;simp[intOf];omega
  ·as_aux_lemma =>
   obtain⟨Bs,T,hB,hl,hp,hsr⟩:=hz.out;have hpl:=hp.length_eq;rw[C6,hl,←HN.out]at hpl
   have i1:¬((a:Int)+20≤(N:Int)):=by omega
   have ci:=A2j w0 g Bs.flatten T [] N c (a:Int) (N:Int) wr (by rw[F3,HN.out,←hp.length_eq]) (by omega) (by omega) hs (by rw[F3];exact hsr)
   have HX:=J1 (J0 hB (J0 hl (J0 hp hpl)));clear hB hl hp hsr hpl hz;go_wp2_with (fail);refine ci.mono ?_;rintro E w1 ⟨rfl,R,pR,oR,hsr⟩
   have H1:Hid (∃(Bs:List (List Itm)) (R:List Itm),Blks 20 Bs∧R.length<20∧So.Ord icm R∧(Bs.flatten++R).Perm D0∧Srt w0 g w1 (Bs.flatten++R)):=J1 (by
    obtain⟨hB,hl,hp,hpl⟩:=HX.out
    exact⟨Bs,R,hB,by rw[pR.length_eq];omega,oR,(List.Perm.append_left _ pR).trans hp,by simpa using hsr⟩)
   clear ci pR oR hsr HX;go_wp2_with (fail)
   go_loopw [6] (fun s wr=>∃(B:Nat),s=.int .i64 B∧1≤B∧B≤4000000∧Hid (∃(Bs:List (List Itm)) (R:List Itm),Blks B Bs∧R.length<B∧So.Ord icm R∧(Bs.flatten++R).Perm D0∧Srt w0 g wr (Bs.flatten++R))) (fun s _=>N-(intOf s).toNat)
   case atStart=>exact⟨20,rfl,by omega,by omega,H1⟩
   case round =>
    obtain⟨B,rfl,hB1,hB6,hz⟩:=hrel
    by_cases hlt2:B<N
    ·as_aux_lemma =>
     obtain⟨Bs0,R0,hBs0,hR0,oR0,hp0,hsr0⟩:=hz.out;obtain⟨B2,hB2⟩:∃B2,B2=2*B:=⟨_,rfl⟩
     have e2:2*(B:Int)=(B2:Int):=by omega
     have e2':(B:Int)*2=(B2:Int):=by omega
     have HB2:=J1 hB2
     have hB26:B2≤2000000:=by omega
     have H2:Hid (∃(Cs Bs:List (List Itm)),Blks B2 Cs∧Blks B Bs∧Cs.flatten.length=0∧(Cs.flatten++(Bs.flatten++R0)).Perm D0∧Srt w0 g wr (Cs.flatten++(Bs.flatten++R0))):=J1 ⟨[],Bs0,fun X hX=>by simp at hX,hBs0,rfl,hp0,hsr0⟩
     have HR0:=J1 (J0 hR0 oR0);clear hBs0 hp0 hsr0 hz hB2 hR0 oR0;go_wp2_with (fail)
     go_loopw [7,8] (fun s t wr=>∃(a:Nat),s=.int .i64 a∧t=.int .i64 ((a:Int)+(B2:Int))∧a≤N∧Hid (∃(Cs Bs:List (List Itm)),Blks B2 Cs∧Blks B Bs∧Cs.flatten.length=a∧(Cs.flatten++(Bs.flatten++R0)).Perm D0∧Srt w0 g wr (Cs.flatten++(Bs.flatten++R0)))) (fun s _ _=>N-(intOf s).toNat)
     case atStart=>exact⟨0,rfl,by simp,E3 _,H2⟩
     case round =>
      obtain⟨a,rfl,rfl,ha,hz⟩:=hrel
      have i0:(a:Int)≤1000000:=by omega
      by_cases hlt3:a+B2≤N
      ·as_aux_lemma =>
       obtain⟨Cs,Bs,hC,hB,hl,hp,hsr⟩:=hz.out;have hpl:=hp.length_eq;rw[C6,C6,hl,←HN.out]at hpl;obtain⟨hR0,oR0⟩:=HR0.out;have hB2:=HB2.out
       obtain⟨X,Y,Bs',rfl⟩:∃X Y Bs',Bs=X::Y::Bs':=by
        cases Bs with
        | nil=>simp at hpl;omega
        | cons X r =>
         cases r with
         | nil=>have:=(hB X E9).1;simp at hpl;omega
         | cons Y r=>exact⟨X,Y,r,rfl⟩
       obtain⟨lX,oX⟩:=hB X E9;obtain⟨lY,oY⟩:=hB Y (F7 _ E9);have hB':Blks B Bs':=fun Z hZ=>hB Z (F7 _ (F7 _ hZ))
       have eB:(X::Y::Bs').flatten++R0=X++(Y++(Bs'.flatten++R0)):=by simp
       rw[eB]at hp hsr;obtain⟨m,hm⟩:∃m,m=a+B:=⟨_,rfl⟩
       have em:(a:Int)+(B:Int)=(m:Int):=by omega
       obtain⟨b,hb⟩:∃b,b=a+B2:=⟨_,rfl⟩
       have eb:(a:Int)+(B2:Int)=(b:Int):=by omega
       have cs:=A4A w0 g (X.length+Y.length) Cs.flatten X Y (Bs'.flatten++R0) N c (a:Int) (m:Int) (b:Int) wr (C3 _) (by rw[HN.out,←hp.length_eq]) (by omega) (by omega) (by omega) (by omega) (by omega) oX oY hs hsr
       have hbN:(b:Int)≤(N:Int):=by omega
       have b6:b≤N:=by omega
       have HX:=J1 (J0 hC (J0 hB' (J0 hl (J0 hp (J0 lX (J0 lY (J0 hb hB2)))))));clear hC hB hB' hl hp hsr hpl eB lX lY oX oY hm hb hB2 hR0 oR0 hz;rw[eb];go_wp2_with (fail);refine cs.mono ?_;rintro E w2 ⟨rfl,R,pR,oR,hsr⟩;have HR:=J1 (J0 pR (J0 oR hsr));clear cs pR oR hsr;go_wp2_with (fail)
       go_roundw
       case rel =>
        obtain⟨hC,hB',hl,hp,lX,lY,hb,hB2⟩:=HX.out;obtain⟨pR,oR,hsr⟩:=HR.out
        have hlR:R.length=B2:=by rw[pR.length_eq,C6];omega
        refine⟨b,rfl,rfl,b6,J1 ⟨Cs++[R],Bs',hC.snoc hlR oR,hB',?_,?_,?_⟩⟩
        ·rw[List.flatten_append,C6,hl];simp[hlR];omega
        ·refine List.Perm.trans ?_ hp;rw[List.flatten_append,D4];refine List.Perm.append_left _ ?_;rw[←D4 X];simp only[List.flatten_cons,List.flatten_nil,F3];exact List.Perm.append_right (Bs'.flatten++R0) pR
        ·rw[List.flatten_append,D4];simpa using hsr
       case measure=>obtain⟨hC,hB',hl,hp,lX,lY,hb,hB2⟩:=HX.out;simp[intOf];omega
      ·as_aux_lemma =>
       obtain⟨Cs,Bs,hC,hB,hl,hp,hsr⟩:=hz.out;have hpl:=hp.length_eq;rw[C6,C6,hl,←HN.out]at hpl;obtain⟨hR0,oR0⟩:=HR0.out;have hB2:=HB2.out
       have i1:¬((a:Int)+(B2:Int)≤(N:Int)):=by omega
       obtain⟨m,hm⟩:∃m,m=a+B:=⟨_,rfl⟩
       have em:(a:Int)+(B:Int)=(m:Int):=by omega
       by_cases hmN:m<N
       ·obtain⟨X,rfl⟩:∃X,Bs=[X]:=by
         cases Bs with
         | nil=>simp at hpl;omega
         | cons X r =>
          cases r with
          | nil=>exact⟨X,rfl⟩
          | cons Y r =>
           have h1:=(hB X E9).1;have h2:=(hB Y (F7 _ E9)).1
           simp at hpl;omega
        obtain⟨lX,oX⟩:=hB X E9
        have eB:[X].flatten++R0=X++(R0++[]):=by simp
        have hXR:X.length+R0.length+a=N:=by simp at hpl;omega
        rw[eB]at hp hsr
        have cs:=A4A w0 g (X.length+R0.length) Cs.flatten X R0 [] N c (a:Int) (m:Int) (N:Int) wr (C3 _) (by rw[HN.out,←hp.length_eq]) (by omega) (by omega) (by omega) (by omega) (by omega) oX oR0 hs hsr
        have HX:=J1 (J0 hC (J0 hp (J0 lX (J0 hR0 hB2))))
        have hmN2:(m:Int)<(N:Int):=by omega
        clear hC hB hl hp hsr hpl eB lX oX hm hB2 hR0 oR0 hz hXR;go_wp2_with (fail);refine cs.mono ?_;rintro E w2 ⟨rfl,R,pR,oR,hsr⟩
        have HR:=J1 (show ∃(Bs:List (List Itm)) (R:List Itm),Blks B2 Bs∧R.length<B2∧So.Ord icm R∧(Bs.flatten++R).Perm D0∧Srt w0 g w2 (Bs.flatten++R) by
         obtain⟨hC,hp,lX,hR0,hB2⟩:=HX.out
         exact⟨Cs,R,hC,by rw[pR.length_eq,C6];omega,oR,(List.Perm.append_left _ (by simpa using pR)).trans hp,by simpa using hsr⟩)
        clear cs pR oR hsr;go_wp2_with (fail)
        go_roundw
        case rel=>exact⟨B2,rfl,by have:=HB2.out;omega,by omega,HR⟩
        case measure=>have:=HB2.out;simp[intOf];omega
       ·have HR:=J1 (show ∃(Bs:List (List Itm)) (R:List Itm),Blks B2 Bs∧R.length<B2∧So.Ord icm R∧(Bs.flatten++R).Perm D0∧Srt w0 g wr (Bs.flatten++R) by
         cases Bs with
         | nil=>exact⟨Cs,R0,hC,by omega,oR0,by simpa using hp,by simpa using hsr⟩
         | cons X r =>
          obtain⟨lX,oX⟩:=hB X E9
          have hr0:r.flatten++R0=[]:=D6 (by rw[List.flatten_cons,C6]at hpl;rw[C6];omega)
          have e:(X::r).flatten++R0=X:=by rw[List.flatten_cons,D4,hr0,F3]
          rw[e]at hp hsr
          exact⟨Cs,X,hC,by omega,oX,hp,hsr⟩)
        have hmN2:¬((m:Int)<(N:Int)):=by omega
        clear hC hB hl hp hsr hpl hm hB2 hR0 oR0 hz;go_wp2_with (fail)
        go_roundw
        case rel=>exact⟨B2,rfl,by have:=HB2.out;omega,by omega,HR⟩
        case measure=>have:=HB2.out;simp[intOf];omega
    ·obtain⟨Bs,R,hBs,hR,oR,hp,hsr⟩:=hz.out;have hpl:=hp.length_eq;rw[C6,←HN.out]at hpl
     have hres:=J1 (show ∃R,R.Perm D0∧So.Ord icm R∧Srt w0 g wr R by
      cases Bs with
      | nil=>exact⟨R,by simpa using hp,oR,by simpa using hsr⟩
      | cons X r =>
       obtain⟨lX,oX⟩:=hBs X E9
       have hr0:r.flatten++R=[]:=D6 (by rw[List.flatten_cons,C6]at hpl;rw[C6];omega)
       have e:(X::r).flatten++R=X:=by rw[List.flatten_cons,D4,hr0,F3]
       rw[e]at hp hsr;exact⟨X,hp,oX,hsr⟩)
     have hge:¬((B:Int)<(N:Int)):=by omega
     clear hBs hR oR hp hsr hpl hz;go_wp2_with (fail)
     go_end0
     exact⟨rfl,hres.out⟩
theorem A5c (w0:World) (g:Nat) (D0:List Itm) (N c:Nat) (w:World) (hN:N=D0.length) (hs:N≤1000000) (h:Srt w0 g w D0) :
  Calls Tryz.prog 63 #[.slice (some ⟨g,0,none⟩) N c,.func (.func 36) #[] #[]] w fun e w'=>e=.returned (.tuple #[])∧∃R,R.Perm D0∧So.Ord icm R∧Srt w0 g w' R:=by
 have cs:=A5b w0 g D0 N c w hN hs h;clear h hN;go_enter Tryz.func63,Tryz.ntmps63;go_wp2_with (fail);refine cs.mono ?_;rintro E w2 ⟨rfl,hR⟩;have HR:=J1 hR;clear cs hR;go_wp2_with (fail)
 go_end0
 exact⟨rfl,HR.out⟩
theorem A7G (g k:Nat):(⟨g,0,none⟩:Addr).add k=⟨g,k,none⟩:=by
 unfold Addr.add
 split
 ·next h=>subst h;rfl
 ·simp
theorem Srt.rws {w0 w:World} {g c:Nat} {D:List Itm} (h:Srt w0 g w D) (hc:D.length≤c):RwsOf w (.slice (some ⟨g,0,none⟩) D.length c) (vals D) (D.map Prod.snd):=by
 refine⟨⟨some ⟨g,0,none⟩,c,by simp[vals],by simpa[vals]using hc,fun j u hu=>⟨g,0,none,rfl,h.lies.lt,by rw[A7G];exact h.lies.cell hu⟩⟩,by simp[vals],fun i r hr=>?_⟩
 rw[F5]at hr
 cases hx:D[i]? with
 | none=>rw[hx]at hr;cases hr
 | some x =>
  rw[hx]at hr;cases hr
  exact⟨x.1,by unfold vals;rw[F5,hx];rfl,(h.rd x (C8 hx)).1.below h.base (C3 _)⟩
theorem A6O {D:List Itm} (h:So.Ord icm D):So.Ord Bg.cr (D.map Prod.snd):=List.pairwise_map.2 h
theorem Tryz.infoRow9:(Tryz.prog.info? 73).map (fun i=>(i.zero,i.size,i.bytes))=some (some (.slice none 0 0),1,24):=by kernel_rfl
def Inord (w:World) (vs:List Value) (rs:List (List Vl)) (E:Ending) (w':World):Prop :=
 ∃(G:Nat) (D:List Itm),E=.returned (.slice (some ⟨G,0,none⟩) D.length D.length)∧D.Perm (vs.zip rs)∧So.Ord icm D∧Srt w G w' D
theorem A50 {vs:List Value} {rs:List (List Vl)} {D:List Itm} (h:D.Perm (vs.zip rs)) (hl:vs.length=rs.length):(D.map Prod.snd).Perm rs:=by
 have:=h.map Prod.snd
 rwa[List.map_snd_zip (by rw[hl];exact C3 _)]at this
theorem A3u (v:Value) (vs:List Value) (rs:List (List Vl)) (w:World) (hl:RwsOf w v vs rs) (hn6:rs.length≤1000000) (hr6:∀r∈rs,r.length≤1000000) :
  Calls Tryz.prog 35 #[v] w (Inord w vs rs):=by
 obtain⟨A,c,rfl,_,_⟩:=Rws.at_ ⟨vs,hl⟩;have hpu:=fun(j:Nat) (x:List Vl) (hj:rs[j]?=some x)=>hl.pick hj;have HU:=J1 hpu;have HL:=J1 hl;have HR6:=J1 hr6;obtain⟨n,hn⟩:∃n,n=rs.length:=⟨_,rfl⟩;rw[←hn]at hn6 ⊢;have HN:=J1 hn;clear hpu hl hn hr6;obtain⟨i0,hi,hz0,hz1,hz2⟩:=info_parts Tryz.infoRow9;have hS:=Below.refl w w;go_enter Tryz.func35,Tryz.ntmps35
 go_wp2_with (first
  | (at_make;refine wpList_make_own _ rfl _ _ 74 rfl w.heap.size 73 i0 (.slice none 0 0) 1 Tryz.underlying74 hi hz0 hz1 .i64 .i64 (n:Int) n rfl rfl rfl (by rw[hz2];omega) (by unfold maxLen;omega) hS.size ?_))
 intro w1 hown0 hgrow0
 have hb1:Below w w w1:=hS.grown hgrow0 hS.size (fun k hk=>by cases hk)
 obtain⟨G,hG⟩:∃G,G=w.heap.size:=⟨_,rfl⟩;rw[←hG]at hown0 ⊢
 have H0:w1.ownsRow w.heap.size 73 1 (.slice (some ⟨G,0,none⟩) 0 n) 0 (vs.take 0):=by rw[hG];simpa[hG]using hown0
 have HG:=J1 hG;clear hown0 hgrow0 hG;go_wp2_with (fail)
 go_loopw [3,11] (fun s i wr=>∃(k:Nat),k≤n∧i=.int .i64 k∧s=.slice (some ⟨G,0,none⟩) k n∧Hid (wr.ownsRow w.heap.size 73 1 (.slice (some ⟨G,0,none⟩) k n) k (vs.take k))∧Below w w wr) (fun _ i _=>n-(intOf i).toNat)
 case atStart=>exact⟨0,E3 _,rfl,rfl,J1 H0,hb1⟩
 case round =>
  obtain⟨k,hk,rfl,rfl,hown,hb⟩:=hrel
  by_cases hlt:k<n
  ·obtain⟨x,gx⟩:∃x,rs[k]?=some x:=⟨rs[k]'(by have:=HN.out;omega),A8 _⟩
   obtain⟨b1,o1,p1,e1,rfl,h1⟩:=HU.out k x gx;obtain⟨hc,hrow⟩:=h1 wr hb
   have gv:vs[k]?=some e1:=by
    obtain⟨u,hu,_⟩:=HL.out.row k x gx;obtain⟨A',c',hv,_,hx⟩:=HL.out.sl
    injection hv with f1 f2 f3
    obtain⟨b,o,p,hA,hlt,hcell⟩:=hx k u hu;rw[←f1]at hA;cases hA;have:=(h1 w (Below.refl _ _)).1;rw[hcell]at this;cases this;exact hu
   obtain⟨B,d,rfl,_,_⟩:=id hrow
   have ht:vs.take (k+1)=vs.take k++[.slice B x.length d]:=by rw[D7,gv];rfl
   have HT:=J1 ht
   have i1:(0:Int)≤(k:Int):=by omega
   have i2:(k:Int)<(n:Int):=by omega
   have hoa:=J1 (hown.out.alloc (Obj.cells #[.slice B x.length d] 73));clear h1 hrow gx gv ht
   go_wp2_with (first
    | (at_builtin;refine wpList_append_fits _ rfl _ _ 74 rfl w.heap.size 73 i0 1 Tryz.underlying74 hi hz1 G k n _ rfl hoa.out ⟨wr.heap.size,0,none⟩ 1 1 [.slice B x.length d] rfl rfl (cell_one_new _ _ _) (by simp[Value.oneCell']) (by omega) ?_))
   intro w9 hown' hgrow
   have hb2:Below w w w9:=(hb.alloc hb.size _).grown hgrow (by have:=hb.size;simp;omega) (fun q hq=>by cases hq;rw[HG.out];exact C3 _)
   have hown2:=J1 (HT.out ▸ hown');clear hown' hgrow hoa hc hb;go_wp2_with (fail)
   go_roundw
   case rel=>exact⟨k+1,by omega,by go_num,by go_num,hown2,hb2⟩
   case measure=>simp[intOf];omega
  ·obtain rfl:k=n:=by omega
   have hvl:vs.length=k:=by rw[HL.out.len,←HN.out]
   have hsrt:Srt w G wr (vs.zip rs):=by
    have ho:=hown.out
    rw[C7 (by omega)]at ho
    refine⟨?_,hb,by rw[HG.out];exact C3 _,fun x hx=>?_⟩
    ·rcases ho.2 with⟨hv,_⟩ | ⟨g',cap,cur,hv,_,hheap,_,_,hsz,htk⟩
     ·cases hv
     ·cases hv
      have e:vals (vs.zip rs)=vs:=List.map_fst_zip (by rw[HL.out.len];exact C3 _)
      rw[e];unfold Lies;rw[hheap]
      rw[C7 (by simp;omega)]at htk
      rw[←htk]
    ·obtain⟨j,hj,rfl⟩:=F9.1 hx;rw[List.length_zip]at hj
     have hjr:j<rs.length:=by omega
     obtain⟨u,hu,hr⟩:=HL.out.row j rs[j] (A8 hjr)
     have hju:vs[j]'(by omega)=u:=by rw[A8 (by omega)]at hu;exact F0 hu
     rw[List.getElem_zip]
     exact⟨by rw[hju];exact hr,HR6.out _ (List.getElem_mem hjr)⟩
   have hzl:k=(vs.zip rs).length:=by rw[List.length_zip,hvl,←HN.out];omega
   have cs:=A5c w G (vs.zip rs) k k wr hzl hn6 hsrt;have HZ:=J1 hzl;clear hsrt hzl hvl hown hb;go_wp2_with (fail);refine cs.mono ?_;rintro E w2 ⟨rfl,R,pR,oR,hsr⟩
   have hres:=J1 (show Inord w vs rs (.returned (.slice (some ⟨G,0,none⟩) k k)) w2 from⟨G,R,by rw[pR.length_eq,←HZ.out],pR,oR,hsr⟩)
   clear cs pR oR hsr;go_wp2_with (fail);go_ret;exact hres.out
theorem A5X (u v:Value) (vs us:List Value) (r s:List (List Vl)) (w:World) (hu:RwsOf w u vs r) (hv:RwsOf w v us s) (hr:r.length≤1000000) (hs:s.length≤1000000) (hr2:∀x∈r,x.length≤1000000) (hs2:∀x∈s,x.length≤1000000) :
  Calls Tryz.prog 10 #[u,v] w fun e w'=>e=.returned (.bool (Bg.same Bg.cr r s))∧Below w w w':=by
 have c1:=A3u u vs r w hu hr hr2;have c2:=fun(W:World) (h:Below w w W)=>A3u v us s W (hv.below h (C3 _)) hs hs2;have HS:=J1 (J0 hr (J0 hs (J0 hr2 hs2)));have HLN:=J1 (J0 hu.len hv.len);clear hu hv hr hs hr2 hs2;go_enter Tryz.func10,Tryz.ntmps10;go_wp2_with (fail);refine c1.mono ?_;rintro E w1 ⟨G1,D1,rfl,q1,o1,s1⟩;have p1:=A50 q1 HLN.out.1;have hb1:=s1.base;have H1:=J1 (J0 p1 (J0 o1 s1));have c3:=c2 w1 hb1;clear c1 c2 p1 o1 s1 q1;go_wp2_with (fail);refine c3.mono ?_;rintro E w2 ⟨G2,D2,rfl,q2,o2,s2⟩;have p2:=A50 q2 HLN.out.2;obtain⟨p1,o1,s1⟩:=H1.out;have hb2:=J5 hb1 s2.base
 have sm:∀{D:List Itm} {rs:List (List Vl)},(D.map Prod.snd).Perm rs→(∀x∈rs,x.length≤1000000)→∀x∈D.map Prod.snd,x.length≤4611686018427387904:=fun p h x hx=>by have:=h x (p.mem_iff.1 hx);omega
 have l1:=p1.length_eq;have l2:=p2.length_eq
 have cc:=A7q _ _ _ _ _ _ w2 ((s1.below s2.base).rws (C3 _)) (s2.rws (C3 _)) (by rw[l1];have:=HS.out.1;omega) (by rw[l2];have:=HS.out.2.1;omega) (sm p1 HS.out.2.2.1) (sm p2 HS.out.2.2.2)
 have he:=Bg.same_ord Bg.cr_cmp p1 p2 (A6O o1) (A6O o2);generalize Bg.lex Bg.cr (D1.map Prod.snd) (D2.map Prod.snd)=d at cc he;have HE:=J1 he;clear c3 p1 o1 s1 p2 o2 s2 q2 H1 he l1 l2 sm hb1;go_wp2_with (fail);refine cc.mono ?_;rintro E w3 ⟨rfl,hb3⟩;clear cc;go_wp2_with (fail);go_ret;refine⟨?_,J5 hb2 hb3⟩;rw[←HE.out]
 exact J8 (by by_cases h:d=0 <;> simp[h])
end Go.Proofs.YtbddhkgbpjhhaaaGreatDoor
