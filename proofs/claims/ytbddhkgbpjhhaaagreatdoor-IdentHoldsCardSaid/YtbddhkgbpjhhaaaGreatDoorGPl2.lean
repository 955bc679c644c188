/-
  LAID TOGETHER, BY PROGRAM, of: Tre, Srt, Bgm, Mtm, Nsm, Hsm, Ckm, Ckmr, Exm, Idm, Idn, Ido.
-/
import Derived.Test.YtbddhkgbpjhhaaaGreatDoorGPlain
import Init
import Derived.Lib.ItoaLen
namespace Go.Proofs.YtbddhkgbpjhhaaaGreatDoor
inductive Tr where
 | mk (k t:Int) (h:Bool) (cs:List Pd) (ks:List Tr):Tr
namespace Tr
def k:Tr→Int | .mk k _ _ _ _=>k
def t:Tr→Int | .mk _ t _ _ _=>t
def h:Tr→Bool | .mk _ _ h _ _=>h
def cs:Tr→List Pd | .mk _ _ _ cs _=>cs
def ks:Tr→List Tr | .mk _ _ _ _ ks=>ks
mutual
def all:Tr→List Tr
 | .mk k t h cs ks=>alls ks++[.mk k t h cs ks]
def alls:List Tr→List Tr
 | []=>[]
 | a::r=>all a++alls r
end
mutual
def size:Tr→Nat
 | .mk _ _ _ cs ks=>1+Pr.sizes cs+sizes ks
def sizes:List Tr→Nat
 | []=>0
 | a::r=>size a+sizes r
end
mutual
def same:Tr→Tr→Bool
 | .mk k t h cs ks,.mk k' t' h' cs' ks'=>k == k'&&t == t'&&h == h'&&Pr.sames cs cs'&&sames ks ks'
def sames:List Tr→List Tr→Bool
 | [],[]=>true
 | a::r,b::s=>same a b&&sames r s
 | _,_=>false
end
mutual
def seen:Tr→Nat
 | .mk k t _ _ ks=>if k=0 then St.ofN [t]else if k=3∨k=4 then seen1 ks else seens ks
def seen1:List Tr→Nat
 | []=>0
 | a::_=>seen a
def seens:List Tr→Nat
 | []=>0
 | a::r=>seen a ||| seens r
end
def tables (a:Tr):Nat:=St.ofN (((all a).filter fun x=>x.k == 0).map t)
theorem all_at (a:Tr):all a=alls a.ks++[a]:=by cases a;rw[all];rfl
theorem size_at (a:Tr):size a=1+Pr.sizes a.cs+sizes a.ks:=by cases a;rw[size];rfl
theorem seen_at (a:Tr):seen a=if a.k=0 then St.ofN [a.t]else if a.k=3∨a.k=4 then seen1 a.ks else seens a.ks:=by cases a;rw[seen];rfl
theorem size_pos (a:Tr):1≤size a:=by rw[size_at];omega
theorem sizes_snoc (l:List Tr) (a:Tr):sizes (l++[a])=sizes l+size a:=by
 induction l with
 | nil=>rw[F1,sizes,sizes,sizes];omega
 | cons b r ih=>rw[G8,sizes,sizes,ih];omega
theorem alls_snoc (l:List Tr) (a:Tr):alls (l++[a])=alls l++all a:=by
 induction l with
 | nil=>rw[F1,alls,alls,alls,F3,F1]
 | cons b r ih=>rw[G8,alls,alls,ih,D4]
theorem seens_snoc (l:List Tr) (a:Tr):seens (l++[a])=seens l ||| seen a:=by
 induction l with
 | nil=>rw[F1,seens,seens,seens,Nat.or_zero,Nat.zero_or]
 | cons b r ih=>rw[G8,seens,seens,ih,Nat.or_assoc]
theorem sizes_take (q:Nat) (l:List Tr):sizes (l.take q)≤sizes l:=by
 induction l generalizing q with
 | nil=>simp
 | cons a r ih =>
  cases q with
  | zero=>rw[F8,sizes];omega
  | succ q=>rw[List.take_succ_cons,sizes,sizes];have:=ih q;omega
theorem sizes_at {l:List Tr} {j:Nat} {a:Tr} (h:l[j]?=some a):size a≤sizes l:=by
 induction l generalizing j with
 | nil=>simp at h
 | cons b r ih =>
  rw[sizes]
  cases j with
  | zero=>simp at h;subst h;omega
  | succ j=>have:=ih (by simpa using h);omega
theorem sizes_length (l:List Tr):l.length≤sizes l:=by
 induction l with
 | nil=>simp
 | cons a r ih=>rw[sizes,G5];have:=size_pos a;omega
theorem ind {P:Tr→Prop} (h:∀a,(∀b∈a.ks,P b)→P a) (a:Tr):P a:=by
 have key:∀n a,size a≤n→P a:=by
  intro n
  induction n with
  | zero=>intro a ha;have:=size_pos a;omega
  | succ n ih =>
   intro a ha;refine h a fun b hb=>ih b ?_;obtain⟨j,hj,rfl⟩:=F9.1 hb;have h1:=sizes_at (A8 hj);rw[size_at]at ha;omega
 exact key _ a (C3 _)
theorem all_length_le (a:Tr):(all a).length≤size a:=by
 refine ind (P:=fun a=>(all a).length≤size a) (fun a ih=>?_) a;rw[all_at,size_at,C6,List.length_singleton]
 have key:∀l:List Tr,(∀b∈l,(all b).length≤size b)→(alls l).length≤sizes l:=by
  intro l
  induction l with
  | nil=>intro _;rw[alls,sizes];simp
  | cons b r ih2 =>
   intro hl;rw[alls,sizes,C6];have h1:=hl b E9;have h2:=ih2 fun c hc=>hl c (F7 _ hc);omega
 have:=key a.ks ih;omega
end Tr
end Go.Proofs.YtbddhkgbpjhhaaaGreatDoor
namespace Go.Proofs.YtbddhkgbpjhhaaaGreatDoor.So
structure Pre {α:Type} (cm:α→α→Int):Prop where
 asym:∀a b,cm a b<0→¬cm b a<0
 trans:∀a b c,¬cm b a<0→¬cm c b<0→¬cm c a<0
def Le {α:Type} (cm:α→α→Int) (a b:α):Prop:=¬cm b a<0
def Ord {α:Type} (cm:α→α→Int) (l:List α):Prop:=l.Pairwise (Le cm)
section
variable {α:Type} {cm:α→α→Int}
theorem Pre.refl (h:Pre cm) (a:α):Le cm a a:=fun g=>h.asym a a g g
theorem Le.of_lt (h:Pre cm) {a b:α} (g:cm a b<0):Le cm a b:=h.asym a b g
theorem Le.trans (h:Pre cm) {a b c:α} (x:Le cm a b) (y:Le cm b c):Le cm a c:=h.trans a b c x y
theorem le_lt (h:Pre cm) {a b c:α} (x:Le cm a b) (y:cm b c<0):cm a c<0:=G9 fun n=>h.trans c a b n x y
theorem Ord.nil:Ord cm ([]:List α):=List.Pairwise.nil
theorem Ord.one (a:α):Ord cm [a]:=List.pairwise_singleton _ _
theorem Ord.append {l m:List α}:Ord cm (l++m)↔Ord cm l∧Ord cm m∧∀a∈l,∀b∈m,Le cm a b:=List.pairwise_append
theorem Ord.at_ (hp:Pre cm) {l:List α} (h:Ord cm l) {i j:Nat} {x y:α} (hij:i≤j) (hi:l[i]?=some x) (hj:l[j]?=some y):Le cm x y:=by
 rcases Nat.lt_or_ge i j with g | g
 ·obtain⟨h1,rfl⟩:=D8.1 hi;obtain⟨h2,rfl⟩:=D8.1 hj;exact List.pairwise_iff_getElem.1 h i j h1 h2 g
 ·have:i=j:=by omega
  subst this;rw[hi]at hj;cases hj;exact hp.refl x
theorem Ord.take {l:List α} (h:Ord cm l) (n:Nat):Ord cm (l.take n):=h.sublist (List.take_sublist n l)
theorem Ord.drop {l:List α} (h:Ord cm l) (n:Nat):Ord cm (l.drop n):=h.sublist (List.drop_sublist n l)
theorem Ord.insert (hp:Pre cm) {X Y:List α} {x:α} (h:Ord cm (X++Y)) (hY:∀y∈Y,cm x y<0) (hX:∀a,X.getLast?=some a→Le cm a x):Ord cm (X++x::Y):=by
 obtain⟨h1,h2,h3⟩:=Ord.append.1 h;refine Ord.append.2 ⟨h1,List.pairwise_cons.2 ⟨fun y hy=>Le.of_lt hp (hY y hy),h2⟩,fun a ha b hb=>?_⟩
 have key:∀a∈X,Le cm a x:=by
  intro a ha;obtain⟨i,hi,rfl⟩:=F9.1 ha
  have hl:X.getLast?=some (X[X.length-1]'(by omega)):=by
   rw[List.getLast?_eq_getElem?];exact A8 _
  exact Le.trans hp (h1.at_ hp (j:=X.length-1) (by omega) (A8 hi) (A8 _)) (hX _ hl)
 rcases List.mem_cons.1 hb with rfl | hb
 ·exact key a ha
 ·exact h3 a ha b hb
theorem merged (hp:Pre cm) {U V R1 R2:List α} {i j:Nat} (hU:Ord cm U) (hV:Ord cm V) (hi:i≤U.length) (hj:j≤V.length)
  (h1:∀x y,0<i→U[i-1]?=some x→V[j]?=some y→Le cm x y) (h2:∀x y,0<j→V[j-1]?=some x→U[i]?=some y→Le cm x y)
  (p1:R1.Perm (U.take i++V.take j)) (p2:R2.Perm (U.drop i++V.drop j)) (o1:Ord cm R1) (o2:Ord cm R2):Ord cm (R1++R2)∧(R1++R2).Perm (U++V):=by
 refine⟨Ord.append.2 ⟨o1,o2,fun a ha b hb=>?_⟩,?_⟩
 ·have a1:=G3.1 (p1.mem_iff.1 ha);have b1:=G3.1 (p2.mem_iff.1 hb)
  have tk:∀(l:List α) (n:Nat),a∈l.take n→∃k,k<n∧l[k]?=some a:=by
   intro l n h;obtain⟨k,hk,rfl⟩:=F9.1 h;rw[E4]at hk
   exact⟨k,by omega,by rw[List.getElem_take];exact A8 _⟩
  have dr:∀(l:List α) (n:Nat),b∈l.drop n→∃k,n≤k∧l[k]?=some b:=by
   intro l n h;obtain⟨k,hk,rfl⟩:=F9.1 h;rw[List.length_drop]at hk
   exact⟨n+k,by omega,by rw[List.getElem_drop];exact A8 _⟩
  have lt_len:∀{l:List α} {k:Nat} {z:α},l[k]?=some z→k<l.length:=fun h=>(D8.1 h).1
  rcases a1 with ha | ha <;> rcases b1 with hb | hb
  ·obtain⟨k,hk,hka⟩:=tk U i ha;obtain⟨m,hm,hmb⟩:=dr U i hb
   exact hU.at_ hp (by omega) hka hmb
  ·obtain⟨k,hk,hka⟩:=tk U i ha;obtain⟨m,hm,hmb⟩:=dr V j hb;have:=lt_len hmb
   have e1:U[i-1]?=some (U[i-1]'(by omega)):=A8 _
   have e2:V[j]?=some (V[j]'(by omega)):=A8 _
   exact Le.trans hp (Le.trans hp (hU.at_ hp (by omega) hka e1) (h1 _ _ (by omega) e1 e2)) (hV.at_ hp hm e2 hmb)
  ·obtain⟨k,hk,hka⟩:=tk V j ha;obtain⟨m,hm,hmb⟩:=dr U i hb;have:=lt_len hmb
   have e1:V[j-1]?=some (V[j-1]'(by omega)):=A8 _
   have e2:U[i]?=some (U[i]'(by omega)):=A8 _
   exact Le.trans hp (Le.trans hp (hV.at_ hp (by omega) hka e1) (h2 _ _ (by omega) e1 e2)) (hU.at_ hp hm e2 hmb)
  ·obtain⟨k,hk,hka⟩:=tk V j ha;obtain⟨m,hm,hmb⟩:=dr V j hb
   exact hV.at_ hp (by omega) hka hmb
 ·refine(p1.append p2).trans ?_
  have e:(U.take i++V.take j++(U.drop i++V.drop j)).Perm ((U.take i++U.drop i)++(V.take j++V.drop j)):=by
   rw[D4,D4];refine List.Perm.append_left _ ?_;rw[←D4,←D4];exact List.Perm.append_right _ List.perm_append_comm
  rw[List.take_append_drop,List.take_append_drop]at e;exact e
structure Half (p:Nat→Prop) (lo hi i j:Nat):Prop where
 l:lo≤i
 m:i≤j
 h:j≤hi
 yes:∀k,lo≤k→k<i→p k
 no:∀k,j≤k→k<hi→¬p k
def Falls (p:Nat→Prop) (lo hi:Nat):Prop:=∀k h,lo≤k→k≤h→h<hi→p h→p k
theorem Half.start {p:Nat→Prop} {lo hi:Nat} (h:lo≤hi):Half p lo hi lo hi:=⟨C3 _,h,C3 _,fun k h1 h2=>by omega,fun k h1 h2=>by omega⟩
theorem Half.up {p:Nat→Prop} {lo hi i j c:Nat} (h:Half p lo hi i j) (hf:Falls p lo hi) (h1:i≤c) (h2:c<j) (hc:p c):Half p lo hi (c+1) j :=
 ⟨by have:=h.l;omega,by omega,h.h,fun k a b=>hf k c a (by omega) (by have:=h.h;omega) hc,h.no⟩
theorem Half.down {p:Nat→Prop} {lo hi i j c:Nat} (h:Half p lo hi i j) (hf:Falls p lo hi) (h1:i≤c) (h2:c<j) (hc:¬p c):Half p lo hi i c :=
 ⟨h.l,h1,by have:=h.h;omega,h.yes,fun k a b hk=>hc (hf c k (by have:=h.l;omega) a b hk)⟩
def swap (l:List α) (i j:Nat):List α:=match l[i]?,l[j]? with
 | some x,some y=>(l.set i y).set j x
 | _,_=>l
theorem swap_at (A B C:List α) (x y:α):swap (A++x::(B++y::C)) A.length (A.length+1+B.length)=A++y::(B++x::C):=by
 have e1:(A++x::(B++y::C))[A.length]?=some x:=by simp
 have e2:(A++x::(B++y::C))[A.length+1+B.length]?=some y:=by
  rw[E8 (by omega),show A.length+1+B.length-A.length=B.length+1 by omega];simp
 unfold swap;rw[e1,e2];simp only
 rw[List.set_append_right _ _ (by omega),Nat.sub_self,C4,List.set_append_right _ _ (by omega),show A.length+1+B.length-A.length=B.length+1 by omega,C5,List.set_append_right _ _ (by omega),Nat.sub_self,C4]
end
end Go.Proofs.YtbddhkgbpjhhaaaGreatDoor.So
namespace Go.Proofs.YtbddhkgbpjhhaaaGreatDoor.Bg
open So
def lex {α:Type} (f:α→α→Int):List α→List α→Int
 | [],[]=>0
 | [],_::_=>-1
 | _::_,[]=>1
 | x::r,y::s=>if f x y=0 then lex f r s else f x y
structure Cmp {α:Type} (f:α→α→Int):Prop where
 neg:∀a b,f a b<0↔0<f b a
 trans:∀a b c,f a b≤0→f b c≤0→f a c≤0
section
variable {α:Type} {f:α→α→Int}
theorem Cmp.zero (h:Cmp f) {a b:α} (g:f a b=0):f b a=0:=by have h1:=h.neg a b;have h2:=h.neg b a;omega
theorem Cmp.self (h:Cmp f) (a:α):f a a=0:=by have h1:=h.neg a a;omega
theorem Cmp.lt_le (h:Cmp f) {a b c:α} (x:f a b<0) (y:f b c≤0):f a c<0:=by
 have h1:=h.trans a b c (by omega) y
 rcases Int.lt_or_eq_of_le h1 with g | g
 ·exact g
 ·have h2:=h.trans b c a y (by have:=h.zero g;omega)
  have h3:=(h.neg a b).1 x;omega
theorem Cmp.le_lt (h:Cmp f) {a b c:α} (x:f a b≤0) (y:f b c<0):f a c<0:=by
 have h1:=h.trans a b c x (by omega)
 rcases Int.lt_or_eq_of_le h1 with g | g
 ·exact g
 ·have h2:=h.trans c a b (by have:=h.zero g;omega) x
  have h3:=(h.neg b c).1 y;omega
theorem Cmp.pre (h:Cmp f):Pre f where
 asym a b g:=by have:=(h.neg a b).1 g;omega
 trans a b c x y:=by
  have h1:=h.neg b a;have h2:=h.neg c b;have h3:=h.neg c a
  have h4:=h.trans a b c (by omega) (by omega)
  omega
theorem Cmp.eq_left (h:Cmp f) {a b c:α} (g:f a b=0):(f a c=0↔f b c=0)∧(f a c<0↔f b c<0):=by
 have g':=h.zero g;have n1:=h.neg a c;have n2:=h.neg b c;have n3:=h.neg c a;have n4:=h.neg c b
 have p1:f a c≤0→f b c≤0:=fun x=>h.trans b a c (by omega) x
 have p2:f b c≤0→f a c≤0:=fun x=>h.trans a b c (by omega) x
 have q1:f a c<0→f b c<0:=fun x=>h.le_lt (by omega) x
 have q2:f b c<0→f a c<0:=fun x=>h.le_lt (by omega) x
 omega
theorem A9m (h:Cmp f):Cmp (lex f) where
 neg a b:=by
  induction a generalizing b with
  | nil=>cases b <;> simp[lex]
  | cons x r ih =>
   cases b with
   | nil=>simp[lex]
   | cons y s =>
    simp only[lex]
    by_cases g:f x y=0
    ·rw[if_pos g,if_pos (h.zero g)];exact ih s
    ·rw[if_neg g,if_neg (fun e=>g (h.zero e))];exact h.neg x y
 trans a b c:=by
  induction a generalizing b c with
  | nil=>cases b <;> cases c <;> simp[lex]
  | cons x r ih =>
   cases b with
   | nil=>simp[lex]
   | cons y s =>
    cases c with
    | nil=>simp[lex]
    | cons z t =>
     simp only[lex];intro h1 h2
     by_cases g1:f x y=0
     ·rw[if_pos g1]at h1
      by_cases g2:f y z=0
      ·rw[if_pos g2]at h2;rw[if_pos ((h.eq_left g1).1.2 g2)];exact ih s t h1 h2
      ·rw[if_neg g2]at h2
       have h3:f x z<0:=h.le_lt (b:=y) (by omega) (by omega)
       rw[if_neg (by omega)]
       omega
     ·rw[if_neg g1]at h1
      by_cases g2:f y z=0
      ·have h3:f x z<0:=h.lt_le (b:=y) (by omega) (by omega)
       rw[if_neg (by omega)]
       omega
      ·rw[if_neg g2]at h2
       have h3:f x z<0:=h.lt_le (b:=y) (by omega) h2
       rw[if_neg (by omega)]
       omega
theorem A4Q {a b:List α} {i:Nat} (ha:i≤a.length) (hb:i≤b.length) (h:∀j x y,j<i→a[j]?=some x→b[j]?=some y→f x y=0):lex f a b=lex f (a.drop i) (b.drop i):=by
 induction i generalizing a b with
 | zero=>simp
 | succ i ih =>
  cases a with
  | nil=>simp at ha
  | cons x r =>
   cases b with
   | nil=>simp at hb
   | cons y s =>
    simp only[lex,List.drop_succ_cons]
    rw[if_pos (h 0 x y (by omega) rfl rfl)]
    exact ih (by simpa using ha) (by simpa using hb) fun j u v hj hu hv=>h (j+1) u v (by omega) (by simpa using hu) (by simpa using hv)
theorem lex_at {a b:List α} {i:Nat} {x y:α} (ha:a[i]?=some x) (hb:b[i]?=some y) (h:∀j x y,j<i→a[j]?=some x→b[j]?=some y→f x y=0) (hn:f x y≠0):lex f a b=f x y:=by
 obtain⟨h1,rfl⟩:=D8.1 ha;obtain⟨h2,rfl⟩:=D8.1 hb
 rw[A4Q (by omega) (by omega) h,List.drop_eq_getElem_cons h1,List.drop_eq_getElem_cons h2,lex,if_neg hn]
theorem lex_end {a b:List α} (h:∀j x y,j<min a.length b.length→a[j]?=some x→b[j]?=some y→f x y=0):lex f a b=if a.length<b.length then -1 else if a.length>b.length then 1 else 0:=by
 rw[A4Q (i:=min a.length b.length) (by omega) (by omega) h]
 rcases Nat.lt_trichotomy a.length b.length with g | g | g
 ·rw[List.drop_of_length_le (by omega),if_pos g,List.drop_eq_getElem_cons (by omega)];rfl
 ·rw[List.drop_of_length_le (by omega),List.drop_of_length_le (by omega),if_neg (by omega),if_neg (by omega)];rfl
 ·rw[if_neg (by omega),if_pos g,List.drop_of_length_le (l:=b) (by omega),List.drop_eq_getElem_cons (by omega)];rfl
theorem A1e {a b:List α}:lex f a b=0↔a.length=b.length∧∀(j:Nat) (x y:α),a[j]?=some x→b[j]?=some y→f x y=0:=by
 induction a generalizing b with
 | nil=>cases b <;> simp[lex]
 | cons x r ih =>
  cases b with
  | nil=>simp[lex]
  | cons y s =>
   simp only[lex,G5]
   by_cases g:f x y=0
   ·rw[if_pos g,ih]
    constructor
    ·rintro⟨h1,h2⟩
     refine⟨by omega,fun j u v hu hv=>?_⟩
     cases j with
     | zero=>simp at hu hv;subst hu;subst hv;exact g
     | succ j=>exact h2 j u v (by simpa using hu) (by simpa using hv)
    ·rintro⟨h1,h2⟩
     exact⟨by omega,fun j u v hu hv=>h2 (j+1) u v (by simpa using hu) (by simpa using hv)⟩
   ·rw[if_neg g]
    constructor
    ·intro e;exact absurd e g
    ·rintro⟨_,h2⟩;exact h2 0 x y rfl rfl
def upTo (f:α→α→Int) (l:List α) (x:α):Nat:=l.countP fun y=>decide (f y x≤0)
def times (f:α→α→Int) (l:List α) (x:α):Nat:=l.countP fun y=>decide (f y x=0)
theorem A1i {l m:List α} (h:l.Perm m) (x:α):upTo f l x=upTo f m x:=h.countP_eq _
theorem A0k {l m:List α} (h:l.Perm m) (x:α):times f l x=times f m x:=h.countP_eq _
theorem A0z {p q:α→Bool}:∀{l m:List α},l.length=m.length→(∀(j:Nat) (x y:α),l[j]?=some x→m[j]?=some y→p x=q y)→l.countP p=m.countP q
 | [],[],_,_=>by simp
 | [],_::_,h,_=>by simp at h
 | _::_,[],h,_=>by simp at h
 | x::r,y::s,h,g=>by
  rw[List.countP_cons,List.countP_cons,g 0 x y rfl rfl,A0z (l:=r) (m:=s) (by simpa using h) fun j u v hu hv=>g (j+1) u v (by simpa using hu) (by simpa using hv)]
theorem A7L (h:Cmp f) {l m:List α} (e:lex f l m=0) (x:α):upTo f l x=upTo f m x:=by
 obtain⟨h1,h2⟩:=A1e.1 e;refine A0z h1 fun j u v hu hv=>?_;have:=h.eq_left (c:=x) (h2 j u v hu hv)
 have n:(f u x≤0)↔(f v x≤0):=by omega
 simp[n]
theorem A6e (h:Cmp f) {l m:List α} (e:lex f l m=0) (x:α):times f l x=times f m x:=by
 obtain⟨h1,h2⟩:=A1e.1 e;refine A0z h1 fun j u v hu hv=>?_;have:=(h.eq_left (c:=x) (h2 j u v hu hv)).1
 simp[this]
theorem A3l (h:Cmp f) {l m:List α} (ol:Ord f l) (om:Ord f m) (hc:∀x,upTo f l x=upTo f m x) {i:Nat} {x y:α} (hx:l[i]?=some x) (hy:m[i]?=some y):¬f x y<0:=by
 intro hlt
 have h1:i+1≤upTo f l x:=by
  have hi:=(D8.1 hx).1;unfold upTo
  have e:l.countP (fun y=>decide (f y x≤0))=(l.take (i+1)).countP (fun y=>decide (f y x≤0))+(l.drop (i+1)).countP (fun y=>decide (f y x≤0)):=by
   rw[←List.countP_append,List.take_append_drop]
  have a:(l.take (i+1)).countP (fun y=>decide (f y x≤0))=(l.take (i+1)).length:=by
   rw[List.countP_eq_length];intro u hu;obtain⟨k,hk,rfl⟩:=F9.1 hu;rw[E4]at hk
   have:=ol.at_ h.pre (i:=k) (j:=i) (by omega) (A8 (by omega)) hx
   rw[List.getElem_take];have n:=h.neg x l[k];have n2:=h.neg l[k] x;unfold Le at this
   simp
   omega
  rw[E4]at a;omega
 have h2:upTo f m x≤i:=by
  have hi:=(D8.1 hy).1;unfold upTo
  have e:m.countP (fun y=>decide (f y x≤0))=(m.take i).countP (fun y=>decide (f y x≤0))+(m.drop i).countP (fun y=>decide (f y x≤0)):=by
   rw[←List.countP_append,List.take_append_drop]
  have a:(m.drop i).countP (fun y=>decide (f y x≤0))=0:=by
   rw[List.countP_eq_zero];intro u hu;obtain⟨k,hk,rfl⟩:=F9.1 hu;rw[List.length_drop]at hk
   have:=om.at_ h.pre (i:=i) (j:=i+k) (by omega) hy (A8 (by omega))
   rw[List.getElem_drop];have n:=h.neg m[i+k] y;have n3:=h.neg y m[i+k];unfold Le at this
   have n2:=h.lt_le hlt (c:=m[i+k]) (by omega)
   have n4:=h.neg x m[i+k]
   simp
   omega
  have b:=List.countP_le_length (p:=fun y=>decide (f y x≤0)) (l:=m.take i);rw[E4]at b;omega
 have:=hc x;omega
theorem A8e (h:Cmp f) {l m:List α} (ol:Ord f l) (om:Ord f m) (hl:l.length=m.length) (hc:∀x,upTo f l x=upTo f m x):lex f l m=0:=by
 refine A1e.2 ⟨hl,fun j x y hx hy=>?_⟩;have h1:=A3l h ol om hc hx hy;have h2:=A3l h om ol (fun x=>(hc x).symm) hy hx;have:=h.neg x y;have:=h.neg y x;omega
def same (f:α→α→Int) (a b:List α):Bool:=a.length == b.length&&a.all fun x=>times f a x == times f b x
theorem A4D {a b:List α}:same f a b=true↔a.length=b.length∧∀x∈a,times f a x=times f b x:=by
 unfold same
 simp
theorem A4I (h:Cmp f):∀(a b:List α),a.length=b.length→(∀x∈a,times f a x=times f b x)→∃c,c.Perm b∧lex f a c=0
 | [],b,hl,_=>by
  cases b with
  | nil=>exact⟨[],.refl _,rfl⟩
  | cons y s=>simp at hl
 | x::r,b,hl,hc=>by
  have hx:=hc x E9
  have hpos:0<times f b x:=by
   rw[←hx];unfold times;rw[List.countP_cons]
   simp[h.self x]
  obtain⟨y,hy,hyx⟩:=List.countP_pos_iff.1 hpos
  have hyx':f y x=0:=by simpa using hyx
  obtain⟨s,t,rfl⟩:=List.append_of_mem hy;have hp:(s++y::t).Perm (y::(s++t)):=List.perm_middle
  have hl2:r.length=(s++t).length:=by simp at hl ⊢;omega
  obtain⟨c,hcp,hcl⟩:=A4I h r (s++t) hl2 fun z hz=>by
   have h1:=hc z (F7 _ hz);rw[A0k hp z]at h1;unfold times at h1 ⊢;rw[List.countP_cons,List.countP_cons]at h1;have e:=(h.eq_left (c:=z) hyx').1
   have e2:(decide (f x z=0))=(decide (f y z=0)):=by simp[e]
   rw[e2]at h1;omega
  refine⟨y::c,(hcp.cons y).trans hp.symm,?_⟩;rw[lex,if_pos (h.zero hyx')];exact hcl
theorem same_ord (h:Cmp f) {a b sa sb:List α} (pa:sa.Perm a) (pb:sb.Perm b) (oa:Ord f sa) (ob:Ord f sb):decide (lex f sa sb=0)=same f a b:=by
 have key:lex f sa sb=0↔same f a b=true:=by
  rw[A4D]
  constructor
  ·intro e
   refine⟨by rw[←pa.length_eq,←pb.length_eq];exact(A1e.1 e).1,fun x _=>?_⟩
   rw[←A0k pa,←A0k pb];exact A6e h e x
  ·rintro⟨hl,hc⟩;obtain⟨c,hcp,hcl⟩:=A4I h a b hl hc
   refine A8e h oa ob (by rw[pa.length_eq,pb.length_eq];exact hl) fun x=>?_
   rw[A1i pa,A7L h hcl,A1i hcp,A1i pb]
 rw[Bool.eq_iff_iff,decide_eq_true_iff];exact key
theorem same_perm {a b:List α} (p:a.Perm b):same f a b=true:=A4D.2 ⟨p.length_eq,fun x _=>A0k p x⟩
end
def cv (x y:Vl):Int:=if Va.same x.1 x.2 y.1 y.2 then 0 else if Va.less x.1 x.2 y.1 y.2 then -1 else 1
theorem A95:Cmp cv where
 neg:=by
  rintro⟨b,n⟩ ⟨c,m⟩
  cases b <;> cases c <;> simp[cv,Va.same,Va.less]
  split <;> split <;> (try split) <;> (try split) <;> omega
 trans:=by
  rintro⟨b,n⟩ ⟨c,m⟩ ⟨d,k⟩
  cases b <;> cases c <;> cases d <;> simp[cv,Va.same,Va.less]
  split <;> split <;> (try split) <;> (try split) <;> (try split) <;> (try split) <;> omega
def cr (r s:List Vl):Int:=lex cv r s
theorem cr_cmp:Cmp cr:=A9m A95
end Go.Proofs.YtbddhkgbpjhhaaaGreatDoor.Bg
namespace Go.Proofs.YtbddhkgbpjhhaaaGreatDoor
namespace Mt
def row (t:List (List Vl)) (i:Nat):List Vl:=(t[i]?).getD []
theorem row_at {t:List (List Vl)} {i:Nat} {r:List Vl} (h:t[i]?=some r):row t i=r:=by unfold row;rw[h];rfl
theorem row_out {t:List (List Vl)} {i:Nat} (h:t.length≤i):row t i=[]:=by unfold row;rw[E6 h];rfl
theorem row_mem {t:List (List Vl)} {i:Nat} (h:i<t.length):t[i]?=some (row t i):=by unfold row;rw[A8 h];rfl
def pick (a b:List (List Vl)) (i:Nat):List Vl:=if(row a i).length=0 then row b i else row a i
def merge (a b:List (List Vl)):List (List Vl):=(List.range (max a.length b.length)).map (pick a b)
theorem merge_length (a b:List (List Vl)):(merge a b).length=max a.length b.length:=by simp[merge]
theorem merge_at (a b:List (List Vl)) {i:Nat} (h:i<max a.length b.length):(merge a b)[i]?=some (pick a b i):=by
 unfold merge;rw[F5,List.getElem?_range h]
 rfl
theorem A9b (i:Nat):row [] i=[]:=row_out (by simp)
theorem A78 (a:List (List Vl)) (i:Nat):pick a [] i=row a i:=by
 unfold pick
 split
 ·rename_i h;rw[A9b,D6 h]
 ·rfl
theorem merge_nil (a:List (List Vl)):merge a []=a:=by
 refine List.ext_getElem? fun i=>?_
 by_cases h:i<a.length
 ·rw[merge_at a [] (by simpa using h),A78,row_mem h]
 ·rw[E6 (by rw[merge_length];simp;omega),E6 (by omega)]
theorem A79 {a b:List (List Vl)} {n:Nat} (ha:∀r∈a,r.length≤n) (hb:∀r∈b,r.length≤n) (i:Nat):(pick a b i).length≤n:=by
 have h:∀t:List (List Vl),(∀r∈t,r.length≤n)→(row t i).length≤n:=fun t ht=>by
  by_cases h:i<t.length
  ·exact ht _ (C8 (row_mem h))
  ·rw[row_out (by omega)];simp
 unfold pick
 split
 ·exact h b hb
 ·exact h a ha
theorem merge_mem {a b:List (List Vl)} {n:Nat} (ha:∀r∈a,r.length≤n) (hb:∀r∈b,r.length≤n):∀r∈merge a b,r.length≤n:=by
 intro r hr;obtain⟨i,_,rfl⟩:=List.mem_map.1 hr;exact A79 ha hb i
def fits (ps:List Pd) (l t:List (List Vl)):Bool:=decide (Lo.andI (ps.map (Pr.of (merge l t)))=2)
def found (ps:List Pd) (l:List (List Vl)) (r:List (List (List Vl))):List (List (List Vl)):=(r.filter (fits ps l)).map (merge l)
theorem found_nil (ps:List Pd) (l:List (List Vl)):found ps l []=[]:=rfl
theorem found_take {ps:List Pd} {l:List (List Vl)} {r:List (List (List Vl))} {q:Nat} {t:List (List Vl)} (h:r[q]?=some t) :
  found ps l (r.take (q+1))=found ps l (r.take q)++(if fits ps l t then [merge l t]else []):=by
 unfold found;rw[D7,h,List.filter_append,List.map_append]
 congr 1
 simp only[Option.toList,List.filter_cons,List.filter_nil]
 cases fits ps l t <;> rfl
theorem found_le (ps:List Pd) (l:List (List Vl)) (r:List (List (List Vl))):(found ps l r).length≤r.length:=by
 unfold found;rw[E0];exact List.length_filter_le _ _
theorem any_found (ps:List Pd) (l:List (List Vl)) (r:List (List (List Vl))):r.any (fits ps l)=decide (0<(found ps l r).length):=by
 unfold found;rw[E0]
 induction r with
 | nil=>rfl
 | cons t r ih =>
  rw[List.any_cons,List.filter_cons,ih]
  cases fits ps l t <;> simp
def of (k:Int) (l:List (List Vl)) (m:List (List (List Vl))):List (List (List Vl)) :=
 if k=1∨(k=2∧0<m.length)then m else if k=2∨(k=3∧0<m.length)∨(k=4∧¬0<m.length)then [l]else []
def extend (k:Int) (ps:List Pd) (l:List (List Vl)) (r:List (List (List Vl))):List (List (List Vl)):=of k l (found ps l r)
def cut (n:Nat) (r:List Vl):List Vl:=(List.range n).map fun k=>(r[k]?).getD (true,0)
theorem A2o (n:Nat) (r:List Vl):(cut n r).length=n:=by simp[cut]
theorem cut_eq (n:Nat) (r:List Vl):cut n r=r.take n++List.replicate (n-r.length) (true,0):=by
 refine List.ext_getElem? fun k=>?_
 by_cases h:k<n
 ·unfold cut;rw[F5,List.getElem?_range h]
  by_cases g:k<r.length
  ·rw[F2 (by rw[E4];omega),List.getElem?_take_of_lt h,Option.map_some,A8 g];rfl
  ·rw[E8 (by rw[E4];omega),List.getElem?_replicate,if_pos (by rw[E4];omega),Option.map_some,E6 (by omega)];rfl
 ·rw[E6 (by rw[A2o];omega),E6 (by simp;omega)]
def num (cols:List Int) (i:Nat):Nat:=((cols[i]?).getD 0).toNat
def flat (t:List (List Vl)) (s:Nat) (cols:List Int):List Vl:=(List.range cols.length).flatMap fun i=>if s.testBit i then cut (num cols i) (row t i)else []
def flatOf (t:List (List Vl)) (cols:List Int) (js:List Nat):List Vl:=js.flatMap fun i=>cut (num cols i) (row t i)
def wide (cols:List Int) (js:List Nat):Nat:=(js.map (num cols)).sum
theorem flatOf_length (t:List (List Vl)) (cols:List Int) (js:List Nat):(flatOf t cols js).length=wide cols js:=by
 unfold flatOf wide
 induction js with
 | nil=>rfl
 | cons j js ih=>rw[E5,C6,ih,A2o,List.map_cons,List.sum_cons]
theorem Y3 {α:Type} (p:Nat→Bool) (f:Nat→List α) (l:List Nat):(l.filter p).flatMap f=l.flatMap fun i=>if p i then f i else []:=by
 induction l with
 | nil=>rfl
 | cons i l ih =>
  rw[List.filter_cons,E5]
  cases h:p i <;> simp[ih]
theorem flat_memb (t:List (List Vl)) (s:Nat) (cols:List Int) (hc:cols.length≤64):flatOf t cols (St.memb (s &&& St.belowN ((cols.length:Int)-1)))=flat t s cols:=by
 unfold flatOf flat
 rw[show St.memb (s &&& St.belowN ((cols.length:Int)-1))=(List.range cols.length).filter fun i=>s.testBit i from ?_,Y3]
 unfold St.memb St.membTo
 rw[show(64:Nat)=cols.length+(64-cols.length) by omega,List.range_add,List.filter_append]
 rw[show(List.filter (fun i=>(s &&& St.belowN ((cols.length:Int)-1)).testBit i) (List.map (fun x=>cols.length+x) (List.range (64-cols.length))))=[] from List.filter_eq_nil_iff.2 ?_,F3]
 ·refine List.filter_congr fun i hi=>?_;have hi:=List.mem_range.1 hi
  rw[Nat.testBit_and,St.testBit_belowN,decide_eq_true (show i<64 by omega),decide_eq_true (show((i:Nat):Int)≤(cols.length:Int)-1 by omega)]
  simp
 ·intro i hi;obtain⟨k,_,rfl⟩:=List.mem_map.1 hi
  rw[Nat.testBit_and,St.testBit_belowN,decide_eq_false (show ¬(((cols.length+k:Nat):Int)≤(cols.length:Int)-1) by omega)]
  simp
end Mt
namespace Ns
def join (k:Int) (ps:List Pd) (L R:List (List (List Vl))):List (List (List Vl)):=L.flatMap fun t=>Mt.extend k ps t R
theorem join_append (k:Int) (ps:List Pd) (L M R:List (List (List Vl))):join k ps (L++M) R=join k ps L R++join k ps M R:=by unfold join;rw[List.flatMap_append]
theorem join_one (k:Int) (ps:List Pd) (t:List (List Vl)) (R:List (List (List Vl))):join k ps [t] R=Mt.extend k ps t R:=by unfold join;simp
theorem extend_le (k:Int) (ps:List Pd) (t:List (List Vl)) (R:List (List (List Vl))):(Mt.extend k ps t R).length≤R.length+1:=by
 have h:=Mt.found_le ps t R;unfold Mt.extend Mt.of
 split
 ·omega
 ·split
  ·simp
  ·simp
structure Few (n m:Nat) (L:List (List (List Vl))):Prop where
 len:L.length≤n
 tup:∀t∈L,t.length≤m∧∀x∈t,x.length≤m
theorem Few.one {n m:Nat} {L:List (List (List Vl))} (h:Few n m L) {t:List (List Vl)} (ht:t∈L):Few n m [t] :=
 ⟨by have:=h.len;have:=List.length_pos_of_mem ht;simp;omega,fun u hu=>by rw[G4.1 hu];exact h.tup t ht⟩
end Ns
namespace Hs
def inn (s:Nat) (x:Tm):Bool:=decide (Te.tables x &&& s≠0)
theorem A8Z (s:Nat) (x:Tm):inn s x=(decide (x.k=1)&&(decide (0≤x.t∧x.t<64)&&s.testBit x.t.toNat)):=by
 unfold inn Te.tables
 by_cases hk:x.k=1
 ·rw[if_pos hk,decide_eq_true hk,Bool.true_and,Bool.eq_iff_iff,decide_eq_true_iff,E7,decide_eq_true_iff]
  constructor
  ·intro h;obtain⟨j,hj⟩:∃j,(St.ofN [x.t] &&& s).testBit j=true:=Nat.exists_testBit_of_ne_zero h;rw[Nat.testBit_and,St.testBit_ofN]at hj
   simp at hj
   obtain⟨⟨h1,h2⟩,h3⟩:=hj;rw[←h2]
   exact⟨by omega,by simpa using h3⟩
  ·rintro⟨⟨h0,h1⟩,h2⟩ h3
   have h4:(St.ofN [x.t] &&& s).testBit x.t.toNat=true:=by
    rw[Nat.testBit_and,St.testBit_ofN,h2]
    simp;omega
   rw[h3]at h4
   simp at h4
 ·rw[if_neg hk,decide_eq_false hk];simp
def key1 (l r:Nat) (p:Pd):Option (Tm × Tm) :=
 if p.f.k=2∧p.f.o=1 then
  if inn l p.f.a&&inn r p.f.b then some (p.f.a,p.f.b)else if inn l p.f.b&&inn r p.f.a then some (p.f.b,p.f.a)else none
 else none
def keys (ps:List Pd) (l r:Nat):List (Tm × Tm):=ps.filterMap (key1 l r)
theorem keys_take {ps:List Pd} {l r q:Nat} {p:Pd} (h:ps[q]?=some p):keys (ps.take (q+1)) l r=keys (ps.take q) l r++(key1 l r p).toList:=by
 unfold keys;rw[D7,h,List.filterMap_append]
 cases hk:key1 l r p <;> simp[hk]
theorem keys_le (ps:List Pd) (l r:Nat):(keys ps l r).length≤ps.length:=List.length_filterMap_le _ _
def prt (v:Vl):List UInt8:=if v.1 then Va.nul else Lib.itoa v.2
def text (xs:List Tm) (t:List (List Vl)):List UInt8:=xs.flatMap fun x=>prt (Te.val x t)++[44]
def nulls (xs:List Tm) (t:List (List Vl)):Bool:=xs.any fun x=>(Te.val x t).1
def key (xs:List Tm) (t:List (List Vl)):Option (List UInt8):=if nulls xs t then none else some (text xs t)
theorem text_take {xs:List Tm} {t:List (List Vl)} {q:Nat} {x:Tm} (h:xs[q]?=some x):text (xs.take (q+1)) t=text (xs.take q) t++(prt (Te.val x t)++[44]):=by
 unfold text;rw[D7,h,List.flatMap_append]
 simp
theorem nulls_take {xs:List Tm} {t:List (List Vl)} {q:Nat} {x:Tm} (h:xs[q]?=some x):nulls (xs.take (q+1)) t=(nulls (xs.take q) t||(Te.val x t).1):=by
 unfold nulls;rw[D7,h,List.any_append]
 simp
theorem nulls_mem {xs:List Tm} {t:List (List Vl)} {q:Nat} {x:Tm} (h:xs[q]?=some x) (hn:(Te.val x t).1=true):nulls xs t=true:=F4.2 ⟨x,C8 h,hn⟩
theorem key_null {xs:List Tm} {t:List (List Vl)} (h:nulls xs t=true):key xs t=none:=if_pos h
theorem key_some {xs:List Tm} {t:List (List Vl)} (h:nulls xs t=false):key xs t=some (text xs t):=by unfold key;rw[h];rfl
def alike (xs:List Tm) (k:Option (List UInt8)) (R:List (List (List Vl))):List (List (List Vl)):=match k with
 | none=>[]
 | some s=>R.filter fun x=>key xs x == some s
theorem alike_take {xs:List Tm} {s:List UInt8} {R:List (List (List Vl))} {q:Nat} {t:List (List Vl)} (h:R[q]?=some t) :
  alike xs (some s) (R.take (q+1))=alike xs (some s) (R.take q)++(if key xs t=some s then [t]else []):=by
 show List.filter _ _=List.filter _ _++_
 rw[D7,h,List.filter_append]
 congr 1
 by_cases hk:key xs t=some s <;> simp[hk]
theorem alike_sub {xs:List Tm} {k:Option (List UInt8)} {R:List (List (List Vl))}:(alike xs k R).Sublist R:=by
 cases k with
 | none=>exact List.nil_sublist _
 | some s=>exact List.filter_sublist
def join (k:Int) (ps:List Pd) (l r:Nat) (L R:List (List (List Vl))):List (List (List Vl)) :=
 L.flatMap fun t=>Mt.extend k ps t (alike ((keys ps l r).map Prod.snd) (key ((keys ps l r).map Prod.fst) t) R)
theorem join_take {k:Int} {ps:List Pd} {l r:Nat} {L R:List (List (List Vl))} {q:Nat} {t:List (List Vl)} (h:L[q]?=some t) :
  join k ps l r (L.take (q+1)) R=join k ps l r (L.take q) R++Mt.extend k ps t (alike ((keys ps l r).map Prod.snd) (key ((keys ps l r).map Prod.fst) t) R):=by
 unfold join;rw[D7,h,List.flatMap_append]
 simp
theorem few_alike {n m:Nat} {xs:List Tm} {k:Option (List UInt8)} {R:List (List (List Vl))} (h:Ns.Few n m R):Ns.Few n m (alike xs k R) :=
 ⟨D5 alike_sub.length_le h.len,fun t ht=>h.tup t (alike_sub.subset ht)⟩
def apart (L:List (List (List Vl))) (s:Nat):Bool:=decide (∀t∈L,∀i,i<t.length→i<64→s.testBit i=true→(Mt.row t i).length=0)
theorem A3I {L:List (List (List Vl))} {s:Nat} (h:apart L s=true) {t:List (List Vl)} (ht:t∈L) {i:Nat} (hi:i<64) (hs:s.testBit i=true):Mt.row t i=[]:=by
 by_cases hl:i<t.length
 ·exact D6 (of_decide_eq_true h t ht i hl hi hs)
 ·exact Mt.row_out (by omega)
theorem row_merge (a b:List (List Vl)) (i:Nat):Mt.row (Mt.merge a b) i=Mt.pick a b i:=by
 by_cases h:i<max a.length b.length
 ·exact Mt.row_at (Mt.merge_at a b h)
 ·rw[Mt.row_out (by rw[Mt.merge_length];omega)]
  unfold Mt.pick
  rw[Mt.row_out (t:=a) (by omega),Mt.row_out (t:=b) (by omega)]
  rfl
theorem col_row {t:Int} (h:0≤t) (c:Int) (rs:List (List Vl)):Te.col t c rs=(Te.at_ (Mt.row rs t.toNat) c).getD Te.nul:=by
 obtain⟨i,rfl⟩:=Int.eq_ofNat_of_zero_le h;unfold Te.col;rw[Te.at_nat]
 show _=(Te.at_ (Mt.row rs i) c).getD Te.nul
 by_cases hi:i<rs.length
 ·rw[Mt.row_mem hi];rfl
 ·rw[E6 (by omega),Mt.row_out (by omega)]
  unfold Te.at_
  split <;> simp
theorem A2t {x:Tm} {s:Nat} (h:inn s x=true) {t u:List (List Vl)} (hr:∀i,i<64→s.testBit i=true→Mt.row t i=Mt.row u i):Te.val x t=Te.val x u:=by
 rw[A8Z]at h;simp only[E7,decide_eq_true_iff]at h;obtain⟨hk,⟨h0,h1⟩,h2⟩:=h
 rw[Te.val_col hk,Te.val_col hk,col_row h0,col_row h0,hr _ (by omega) h2]
theorem A8F {ps:List Pd} {l r:Nat} {t x:List (List Vl)} (hf:Mt.fits ps t x=true) (ht:∀i,i<64→r.testBit i=true→Mt.row t i=[]) (hx:∀i,i<64→l.testBit i=true→Mt.row x i=[])
  {c:Tm × Tm} (hc:c∈keys ps l r):(Te.val c.1 t).1=false∧(Te.val c.2 x).1=false∧(Te.val c.1 t).2=(Te.val c.2 x).2:=by
 obtain⟨p,hp,hk⟩:=List.mem_filterMap.1 hc;have h2:Pr.of (Mt.merge t x) p=2:=Lo.andI_eq2.1 (of_decide_eq_true hf) _ (List.mem_map_of_mem hp)
 have hl:∀i,i<64→l.testBit i=true→Mt.row (Mt.merge t x) i=Mt.row t i:=fun i hi hs=>by
  rw[row_merge];unfold Mt.pick
  split
  ·rename_i h;rw[hx i hi hs,D6 h]
  ·rfl
 have hr:∀i,i<64→r.testBit i=true→Mt.row (Mt.merge t x) i=Mt.row x i:=fun i hi hs=>by
  rw[row_merge];unfold Mt.pick;rw[ht i hi hs];rfl
 unfold key1 at hk
 split at hk
 ·rename_i ho
  rw[Pr.of_at,Pr.made_2 ho.1,ho.2]at h2
  have hcomp:∀(b:Bool) (n:Int) (c:Bool) (m:Int),Va.comp 1 b n c m=2→b=false∧c=false∧n=m:=by
   intro b n c m h
   by_cases hb:(b||c)=true
   ·rw[Va.comp_null hb]at h;cases h
   ·simp at hb
    obtain⟨rfl,rfl⟩:=hb
    rw[show(1:Int)=((1:Nat):Int) from rfl,Va.comp_want 1 (by decide) (by decide),Va.place_num]at h
    refine⟨rfl,rfl,?_⟩
    by_cases h1:n<m
    ·rw[if_pos h1]at h;simp[Va.want,Va.truth]at h
    ·rw[if_neg h1]at h
     by_cases h3:m<n
     ·rw[if_pos h3]at h;simp[Va.want,Va.truth]at h
     ·omega
  obtain⟨n1,n2,n3⟩:=hcomp _ _ _ _ h2
  split at hk
  ·rename_i hi
   simp only[E7]at hi;cases hk;rw[A2t hi.1 hl]at n1 n3;rw[A2t hi.2 hr]at n2 n3;exact⟨n1,n2,n3⟩
  ·split at hk
   ·rename_i hi
    simp only[E7]at hi;cases hk;rw[A2t hi.1 hl]at n2 n3;rw[A2t hi.2 hr]at n1 n3;exact⟨n2,n1,n3.symm⟩
   ·cases hk
 ·cases hk
theorem A5P {ps:List Pd} {l r:Nat} {t x:List (List Vl)} (hf:Mt.fits ps t x=true) (ht:∀i,i<64→r.testBit i=true→Mt.row t i=[]) (hx:∀i,i<64→l.testBit i=true→Mt.row x i=[]) :
  ∃s,key ((keys ps l r).map Prod.fst) t=some s∧key ((keys ps l r).map Prod.snd) x=some s:=by
 have h:=fun c hc=>A8F hf ht hx (c:=c) hc;generalize keys ps l r=K at h
 have hn1:nulls (K.map Prod.fst) t=false:=by
  rw[nulls,List.any_eq_false];intro y hy;obtain⟨c,hc,rfl⟩:=List.mem_map.1 hy
  simp[(h c hc).1]
 have hn2:nulls (K.map Prod.snd) x=false:=by
  rw[nulls,List.any_eq_false];intro y hy;obtain⟨c,hc,rfl⟩:=List.mem_map.1 hy
  simp[(h c hc).2.1]
 refine⟨_,key_some hn1,?_⟩;rw[key_some hn2]
 congr 1
 unfold text;clear hn1 hn2
 induction K with
 | nil=>rfl
 | cons c K ih =>
  obtain⟨h1,h2,h3⟩:=h c E9;rw[List.map_cons,List.map_cons,E5,E5,ih fun c hc=>h c (F7 _ hc)]
  congr 2
  unfold prt;rw[h1,h2,h3]
theorem A4l {ps:List Pd} {l r:Nat} {t:List (List Vl)} {R:List (List (List Vl))} (ht:∀i,i<64→r.testBit i=true→Mt.row t i=[]) (hR:apart R l=true) :
  Mt.found ps t (alike ((keys ps l r).map Prod.snd) (key ((keys ps l r).map Prod.fst) t) R)=Mt.found ps t R:=by
 have hx:∀x∈R,Mt.fits ps t x=true→∃s,key ((keys ps l r).map Prod.fst) t=some s∧key ((keys ps l r).map Prod.snd) x=some s:=fun x hx hf =>
  A5P hf ht fun i hi hs=>A3I hR hx hi hs
 unfold Mt.found
 congr 1
 cases hk:key ((keys ps l r).map Prod.fst) t with
 | none =>
  symm
  show List.filter _ R=_
  rw[show alike ((keys ps l r).map Prod.snd) none R=[] from rfl,List.filter_nil,List.filter_eq_nil_iff]
  intro x hxR hf;obtain⟨s,h1,_⟩:=hx x hxR hf;rw[hk]at h1;cases h1
 | some s =>
  unfold alike;rw[List.filter_filter];refine List.filter_congr fun x hxR=>?_
  cases hf:Mt.fits ps t x with
  | false=>rfl
  | true =>
   obtain⟨s',h1,h2⟩:=hx x hxR hf;rw[hk]at h1;cases h1
   simp[h2]
theorem A3z {k:Int} {ps:List Pd} {l r:Nat} {t:List (List Vl)} {R:List (List (List Vl))} (ht:∀i,i<64→r.testBit i=true→Mt.row t i=[]) (hR:apart R l=true) :
  Mt.extend k ps t (alike ((keys ps l r).map Prod.snd) (key ((keys ps l r).map Prod.fst) t) R)=Mt.extend k ps t R:=by
 unfold Mt.extend;rw[A4l ht hR]
theorem join_same {k:Int} {ps:List Pd} {l r:Nat} {L R:List (List (List Vl))} (hL:apart L r=true) (hR:apart R l=true):join k ps l r L R=Ns.join k ps L R:=by
 unfold join Ns.join;have:∀t∈L,Mt.extend k ps t (alike ((keys ps l r).map Prod.snd) (key ((keys ps l r).map Prod.fst) t) R)=Mt.extend k ps t R:=fun t ht=>A3z (fun i hi hs=>A3I hL ht hi hs) hR;clear hL
 induction L with
 | nil=>rfl
 | cons t L ih=>rw[E5,E5,this t E9,ih fun u hu=>this u (F7 _ hu)]
end Hs
namespace Ck
def out (cols:List Int) (l r:Nat) (c:Int × Int):Bool:=(!St.hasB l c.1&&!St.hasB r c.1)||decide (cols.getD c.1.toNat 0≤c.2)
def conj (cols:List Int) (l r:Nat) (p:Pd):Int :=
 if Pr.rightAt p 1=false then 9
 else if(Pr.cols p).any (out cols l r)=true then 10
 else if Pr.tables p &&& l=0∨Pr.tables p &&& r=0 then 11 else 0
def conjs (cols:List Int) (l r:Nat):List Pd→Int
 | []=>0
 | p::t=>if conj cols l r p≠0 then conj cols l r p else conjs cols l r t
def alone (n:Nat) (t:Tr) (c:Nat):Int :=
 if t.k<0∨4<t.k∨(t.k=0∧t.h=true)then 4
 else if t.ks.length≠(if t.k=0 then 0 else 2)then 7
 else if(t.k=0∧t.cs.length≠0)∨(t.k≠0∧t.cs.length=0)∨64<c then 8
 else if t.t<0∨(if t.k=0 then(n:Int)else 1)≤t.t then 5 else 0
def ksn (t:Tr) (i:Nat):Nat:=match t.ks[i]? with | some a=>Tr.seen a | none=>0
def what (cols:List Int) (t:Tr) (c:Nat):Int :=
 if alone cols.length t (c+t.cs.length)≠0 then alone cols.length t (c+t.cs.length)
 else if t.k=0 then 0 else conjs cols (ksn t 0) (ksn t 1) t.cs
def comes (t:Tr) (came:List Int):List Int:=if t.k=0 then came++[t.t]else came
def run (cols:List Int):List Tr→List Int→Nat→Int × List Int
 | [],came,_=>(0,came)
 | t::r,came,c=>if what cols t c≠0 then(what cols t c,came)else run cols r (comes t came) (c+t.cs.length)
def many (l:List Tr):Nat:=(l.map fun t=>t.cs.length).sum
def tour (cols:List Int) (root:Tr):Int:=if(run cols (Tr.all root) [] 0).2.Nodup then(run cols (Tr.all root) [] 0).1 else 6
def query (cols:List Int) (root:Tr):Int :=
 if 64<cols.length then 2 else if cols.any (fun n=>decide (n<1)||decide (4<n))=true then 12 else tour cols root
def doc (cols:List Int):List Tr→List Int→Nat→Int
 | [],_,_=>0
 | t::r,came,c=>if what cols t c≠0 then what cols t c else if t.k=0∧t.t∈came then 6 else doc cols r (comes t came) (c+t.cs.length)
theorem alone_le {n c:Nat} {t:Tr} (h:alone n t c=0):c≤64:=by
 unfold alone at h
 repeat' split at h
 all_goals first | omega | simp at h
theorem what_le {cols:List Int} {c:Nat} {t:Tr} (h:what cols t c=0):c+t.cs.length≤64:=by
 unfold what at h
 split at h
 ·rename_i hh;exact absurd h hh
 ·rename_i hh;exact alone_le (Decidable.not_not.1 hh)
theorem what_alone {cols:List Int} {c:Nat} {t:Tr} (h:what cols t c=0):alone cols.length t (c+t.cs.length)=0:=by
 unfold what at h
 split at h
 ·rename_i hh;exact absurd h hh
 ·rename_i hh;exact Decidable.not_not.1 hh
theorem A5e (cols:List Int) (l:List Tr):∀came c,∃z,(run cols l came c).2=came++z:=by
 induction l with
 | nil=>intro came c;exact⟨[],by simp[run]⟩
 | cons t r ih =>
  intro came c;rw[run]
  split
  ·exact⟨[],by simp⟩
  ·obtain⟨z,hz⟩:=ih (comes t came) (c+t.cs.length);unfold comes at hz ⊢
   split at hz
   ·rename_i hk
    rw[if_pos hk,hz]
    exact⟨[t.t]++z,by rw[D4]⟩
   ·rename_i hk
    rw[if_neg hk];exact⟨z,hz⟩
theorem A9s (cols:List Int) (l:List Tr):∀came c,came.Nodup→doc cols l came c=if(run cols l came c).2.Nodup then(run cols l came c).1 else 6:=by
 induction l with
 | nil=>intro came c h;rw[doc,run,if_pos h]
 | cons t r ih =>
  intro came c h;rw[doc,run]
  by_cases hw:what cols t c=0
  ·rw[if_neg (not_not_intro hw),if_neg (not_not_intro hw)]
   by_cases hk:t.k=0
   ·by_cases hm:t.t∈came
    ·rw[if_pos ⟨hk,hm⟩,if_neg];obtain⟨z,hz⟩:=A5e cols r (comes t came) (c+t.cs.length);rw[hz];unfold comes;rw[if_pos hk];intro hn;have h2:=(List.nodup_append.1 hn).1;exact(List.nodup_append.1 h2).2.2 _ hm _ E9 rfl
    ·rw[if_neg (fun e=>hm e.2)];refine ih _ _ ?_;unfold comes;rw[if_pos hk,List.nodup_append]
     exact⟨h,by simp,fun a ha b hb e=>hm (by rw[G4.1 hb]at e;exact e ▸ ha)⟩
   ·rw[if_neg (fun e=>hk e.1)];refine ih _ _ ?_;unfold comes;rw[if_neg hk];exact h
  ·rw[if_pos hw,if_pos hw,if_pos h]
theorem doc_tour (cols:List Int) (a:Tr):doc cols (Tr.all a) [] 0=tour cols a:=A9s _ _ _ _ List.nodup_nil
theorem run_snoc {cols:List Int} {l:List Tr} {t:Tr}:∀{came:List Int} {c:Nat},(run cols l came c).1=0 →
  run cols (l++[t]) came c=if what cols t (c+many l)≠0 then(what cols t (c+many l),(run cols l came c).2)else(0,comes t (run cols l came c).2):=by
 induction l with
 | nil=>intro came c _;rw[F1,run];simp[run,many]
 | cons x r ih =>
  intro came c h;rw[G8,run];rw[run]at h ⊢
  split
  ·rename_i hw;rw[if_pos hw]at h;exact absurd h hw
  ·rename_i hw
   rw[if_neg hw]at h;rw[ih h];simp only[many,List.map_cons,List.sum_cons,Nat.add_assoc]
theorem run_stop {cols:List Int} {l m:List Tr}:∀{came:List Int} {c:Nat},(run cols l came c).1≠0→run cols (l++m) came c=run cols l came c:=by
 induction l with
 | nil=>intro came c h;exact absurd rfl h
 | cons x r ih =>
  intro came c h;rw[G8,run];rw[run]at h ⊢
  split
  ·rfl
  ·rename_i hw
   rw[if_neg hw]at h;exact ih h
theorem many_snoc (l:List Tr) (t:Tr):many (l++[t])=many l+t.cs.length:=by simp[many]
theorem A4F {cols:List Int} {l:List Tr}:∀{came:List Int} {c:Nat},(run cols l came c).1=0→∀t∈l,∃c',c≤c'∧what cols t c'=0:=by
 induction l with
 | nil=>intro _ _ _ t h;simp at h
 | cons x r ih =>
  intro came c h t ht;rw[run]at h
  split at h
  ·rename_i hw;exact absurd h hw
  ·rename_i hw
   rcases List.mem_cons.1 ht with rfl | ht
   ·exact⟨c,C3 _,Decidable.not_not.1 hw⟩
   ·obtain⟨c',h1,h2⟩:=ih h t ht
    exact⟨c',by omega,h2⟩
theorem run_many {cols:List Int} {l:List Tr} {came:List Int} {c:Nat} (h:(run cols l came c).1=0) (hc:c≤64):c+many l≤64:=by
 induction l generalizing came c with
 | nil=>simpa[many]using hc
 | cons x r ih =>
  rw[run]at h
  split at h
  ·rename_i hw;exact absurd h hw
  ·rename_i hw
   have:=ih h (what_le (Decidable.not_not.1 hw));simp only[many,List.map_cons,List.sum_cons]at this ⊢;omega
def Fine (n:Nat) (t:Tr):Prop:=t.k=0→0≤t.t∧t.t<n
theorem alone_fine {n c:Nat} {t:Tr} (h:alone n t c=0):Fine n t:=by
 intro hk;unfold alone at h;simp only[if_pos hk]at h
 repeat' split at h
 all_goals first | omega | simp at h
theorem alone_kids {n c:Nat} {t:Tr} (h:alone n t c=0) (hk:t.k≠0):t.ks.length=2∧t.cs.length≠0∧1≤t.k∧t.k≤4∧t.t=0:=by
 unfold alone at h;simp only[if_neg hk]at h
 repeat' split at h
 all_goals first | (refine⟨?_,?_,?_,?_,?_⟩ <;> omega) | simp at h
theorem alone_leaf {n c:Nat} {t:Tr} (h:alone n t c=0) (hk:t.k=0):t.ks=[]∧t.cs=[]:=by
 unfold alone at h;simp only[if_pos hk]at h
 repeat' split at h
 all_goals first | (refine⟨List.length_eq_zero_iff.1 ?_,List.length_eq_zero_iff.1 ?_⟩ <;> omega) | simp at h
theorem run_fine {cols:List Int} {l:List Tr} {came:List Int} {c:Nat} (h:(run cols l came c).1=0):∀t∈l,Fine cols.length t:=fun t ht=>by
 obtain⟨c',_,h2⟩:=A4F h t ht;exact alone_fine (what_alone h2)
mutual
theorem A1t (n:Nat):∀a:Tr,(∀x∈Tr.all a,Fine n x)→∀j,(Tr.seen a).testBit j=true→j<n
 | .mk k t h cs ks=>by
  intro hf j hj
  have hall:∀x∈Tr.alls ks,Fine n x:=fun x hx=>hf x (by rw[Tr.all_at];exact List.mem_append_left _ hx)
  rw[Tr.seen]at hj
  split at hj
  ·rename_i hk
   have:=hf (.mk k t h cs ks) (by rw[Tr.all_at];simp) hk
   change 0≤t∧t<n at this;rw[St.testBit_ofN]at hj
   simp at hj
   omega
  ·split at hj
   ·exact A5d n ks hall j hj
   ·exact A13 n ks hall j hj
theorem A5d (n:Nat):∀l:List Tr,(∀x∈Tr.alls l,Fine n x)→∀j,(Tr.seen1 l).testBit j=true→j<n
 | []=>by intro _ j hj;rw[Tr.seen1]at hj;simp at hj
 | a::r=>by intro hf j hj;rw[Tr.seen1]at hj;exact A1t n a (fun x hx=>hf x (by rw[Tr.alls];exact List.mem_append_left _ hx)) j hj
theorem A13 (n:Nat):∀l:List Tr,(∀x∈Tr.alls l,Fine n x)→∀j,(Tr.seens l).testBit j=true→j<n
 | []=>by intro _ j hj;rw[Tr.seens]at hj;simp at hj
 | a::r=>by
  intro hf j hj;rw[Tr.seens,G7,Bool.or_eq_true]at hj
  rcases hj with hj | hj
  ·exact A1t n a (fun x hx=>hf x (by rw[Tr.alls];exact List.mem_append_left _ hx)) j hj
  ·exact A13 n r (fun x hx=>hf x (by rw[Tr.alls];exact List.mem_append_right _ hx)) j hj
end
theorem A0W {α:Type} {p l m:List α} {x:α} (h:p++[x] <+: l++m):p++[x] <+: l∨∃q,p=l++q∧q++[x] <+: m:=by
 by_cases hl:(p++[x]).length≤l.length
 ·exact .inl (List.prefix_of_prefix_length_le h (List.prefix_append l m) hl)
 ·have h2:l <+: p:=List.prefix_of_prefix_length_le (List.prefix_append l m) ((List.prefix_append p [x]).trans h) (by simp at hl;omega)
  obtain⟨q,rfl⟩:=h2;rw[D4,List.prefix_append_right_inj]at h;exact .inr ⟨q,rfl,h⟩
theorem A3P (l:List Tr) (hl:∀b∈l,∀(pre:List Tr) (x:Tr),pre++[x] <+: Tr.all b→∀y∈Tr.alls x.ks,y∈pre) :
  ∀(pre:List Tr) (x:Tr),pre++[x] <+: Tr.alls l→∀y∈Tr.alls x.ks,y∈pre:=by
 induction l with
 | nil=>intro pre x h;rw[Tr.alls]at h;simp at h
 | cons b r ih =>
  intro pre x h y hy;rw[Tr.alls]at h
  rcases A0W h with h | ⟨q,rfl,hq⟩
  ·exact hl b E9 pre x h y hy
  ·exact List.mem_append_right _ (ih (fun c hc=>hl c (F7 _ hc)) q x hq y hy)
theorem within (a:Tr):∀(pre:List Tr) (x:Tr),pre++[x] <+: Tr.all a→∀y∈Tr.alls x.ks,y∈pre:=by
 refine Tr.ind (P:=fun a=>∀(pre:List Tr) (x:Tr),pre++[x] <+: Tr.all a→∀y∈Tr.alls x.ks,y∈pre) (fun a ih=>?_) a;intro pre x h y hy;rw[Tr.all_at]at h
 rcases A0W h with h | ⟨q,rfl,hq⟩
 ·exact A3P a.ks ih pre x h y hy
 ·obtain⟨z,hz⟩:=hq
  cases q with
  | nil =>
   simp at hz
   rw[hz.1]at hy;exact List.mem_append_left _ hy
  | cons c s=>simp at hz
theorem A4M {l:List Tr} {b:Tr} (hb:b∈l):∀x∈Tr.all b,x∈Tr.alls l:=by
 induction l with
 | nil=>simp at hb
 | cons c r ih =>
  intro x hx;rw[Tr.alls]
  rcases List.mem_cons.1 hb with rfl | hb
  ·exact List.mem_append_left _ hx
  ·exact List.mem_append_right _ (ih hb x hx)
theorem ksn_fine {n:Nat} {a:Tr} {pre:List Tr} {x:Tr} (h:pre++[x] <+: Tr.all a) (hf:∀y∈pre,Fine n y) (i:Nat):∀j,(ksn x i).testBit j=true→j<n:=by
 intro j hj;unfold ksn at hj
 split at hj
 ·rename_i b hb
  exact A1t n b (fun y hy=>hf y (within a pre x h y (A4M (C8 hb) y hy))) j hj
 ·simp at hj
theorem has_or (l r:Nat) (i:Int):St.hasB (l ||| r) i=(St.hasB l i||St.hasB r i):=by
 unfold St.hasB;rw[G7]
 cases decide (0≤i) <;> cases decide (i≤63) <;> simp
def fits (rows:List (List Vl)) (n:Int):Bool:=decide (rows.length≤1000)&&rows.all fun r=>decide ((r.length:Int)=n)&&r.all fun v=>Va.right v.1 v.2
def fitAll (cols:List Int) (d:List (List (List Vl))):Bool:=(d.zip cols).all fun x=>fits x.1 x.2
def data (cols:List Int) (root:Tr) (d:List (List (List Vl))):Int :=
 if query cols root≠0 then query cols root else if d.length≠cols.length then 13 else if fitAll cols d=true then 0 else 13
end Ck
namespace Ck
theorem A5Z {n c c':Nat} {t:Tr} (h:alone n t c=0) (hc:c'≤c):alone n t c'=0:=by
 unfold alone at h ⊢
 by_cases h1:t.k<0∨4<t.k∨(t.k=0∧t.h=true)
 ·rw[if_pos h1]at h;simp at h
 ·rw[if_neg h1]at h ⊢
  by_cases h2:t.ks.length≠(if t.k=0 then 0 else 2)
  ·rw[if_pos h2]at h;simp at h
  ·rw[if_neg h2]at h ⊢
   by_cases h3:(t.k=0∧t.cs.length≠0)∨(t.k≠0∧t.cs.length=0)∨64<c
   ·rw[if_pos h3]at h;simp at h
   ·rw[if_neg h3]at h
    rw[if_neg (by omega)]
    exact h
theorem A54 {cols:List Int} {c c':Nat} {t:Tr} (h:what cols t c=0) (hc:c'≤c):what cols t c'=0:=by
 have h1:=what_alone h
 have h2:alone cols.length t (c'+t.cs.length)=0:=A5Z h1 (by omega)
 unfold what at h ⊢;rw[if_neg (not_not_intro h1)]at h;rw[if_neg (not_not_intro h2)];exact h
theorem tour_zero {cols:List Int} {a:Tr}:tour cols a=0↔(run cols (Tr.all a) [] 0).1=0∧(run cols (Tr.all a) [] 0).2.Nodup:=by
 unfold tour
 constructor
 ·intro h
  split at h
  ·rename_i hn;exact⟨h,hn⟩
  ·simp at h
 ·rintro⟨h1,h2⟩;rw[if_pos h2];exact h1
theorem query_right {cols:List Int} {a:Tr} (h:query cols a=0):cols.length≤64∧(∀x∈cols,1≤x∧x≤4)∧tour cols a=0:=by
 unfold query at h
 split at h
 ·simp at h
 ·rename_i h1
  split at h
  ·simp at h
  ·rename_i h2
   refine⟨by omega,fun x hx=>?_,h⟩
   have h3:¬((decide (x<1)||decide (4<x))=true):=fun hh=>h2 (F4.2 ⟨x,hx,hh⟩)
   simp at h3
   omega
theorem query_of {cols:List Int} {a:Tr} (h:cols.length≤64) (hx:∀x∈cols,1≤x∧x≤4) (ht:tour cols a=0):query cols a=0:=by
 unfold query
 rw[if_neg (by omega),if_neg]
 ·exact ht
 ·intro hh;obtain⟨x,h1,h2⟩:=F4.1 hh;have:=hx x h1
  simp at h2
  omega
theorem conjs_zero {cols:List Int} {l r:Nat} {L:List Pd}:conjs cols l r L=0↔∀p∈L,conj cols l r p=0:=by
 induction L with
 | nil=>simp[conjs]
 | cons p t ih =>
  rw[conjs]
  constructor
  ·intro h
   split at h
   ·rename_i hh;exact absurd h hh
   ·rename_i hh
    intro q hq
    rcases List.mem_cons.1 hq with rfl | hq
    ·exact Decidable.not_not.1 hh
    ·exact ih.1 h q hq
  ·intro h;rw[if_neg (not_not_intro (h p E9))];exact ih.2 fun q hq=>h q (F7 _ hq)
end Ck
namespace Ck
def lv (l:List Tr):List Int:=(l.filter fun x=>x.k == 0).map Tr.t
theorem lv_app (l m:List Tr):lv (l++m)=lv l++lv m:=by simp[lv]
theorem lv_one (t:Tr):lv [t]=if t.k=0 then [t.t]else []:=by
 unfold lv
 by_cases h:t.k=0 <;> simp[h]
theorem run_lv {cols:List Int} {l:List Tr}:∀{came:List Int} {c:Nat},(run cols l came c).1=0→(run cols l came c).2=came++lv l:=by
 induction l with
 | nil=>intro came c _;simp[run,lv]
 | cons x r ih =>
  intro came c h;rw[run]at h ⊢
  split at h
  ·rename_i hw;exact absurd h hw
  ·rename_i hw
   rw[if_neg hw,ih h]
   rw[show x::r=[x]++r from rfl,lv_app,lv_one]
   unfold comes
   split <;> simp
def Good (cols:List Int) (a:Tr):Prop:=∀x∈Tr.all a,what cols x 0=0
theorem good_of {cols:List Int} {a:Tr} (h:tour cols a=0):Good cols a:=fun x hx=>by
 obtain⟨c',_,h2⟩:=A4F (tour_zero.1 h).1 x hx;exact A54 h2 (E3 _)
theorem Good.kid {cols:List Int} {a b:Tr} (h:Good cols a) (hb:b∈a.ks):Good cols b:=fun x hx=>h x (by rw[Tr.all_at];exact List.mem_append_left _ (A4M hb x hx))
theorem Good.own {cols:List Int} {a:Tr} (h:Good cols a):what cols a 0=0:=h a (by rw[Tr.all_at];simp)
theorem Good.leaf {cols:List Int} {a:Tr} (h:Good cols a) (hk:a.k=0):a.ks=[]∧a.cs=[]∧0≤a.t∧a.t<cols.length:=by
 have h1:=what_alone h.own;obtain⟨h2,h3⟩:=alone_leaf h1 hk;obtain⟨h4,h5⟩:=alone_fine h1 hk;exact⟨h2,h3,h4,h5⟩
theorem Good.op {cols:List Int} {a:Tr} (h:Good cols a) (hk:a.k≠0):∃x y,a.ks=[x,y]∧a.cs≠[]∧(a.k=0∨1≤a.k)∧conjs cols (Tr.seen x) (Tr.seen y) a.cs=0:=by
 have h1:=what_alone h.own;obtain⟨h2,h3,h4,_,_⟩:=alone_kids h1 hk
 obtain⟨x,y,hks⟩:∃x y,a.ks=[x,y]:=by
  match hkk:a.ks with
  | []=>rw[hkk]at h2;simp at h2
  | [_]=>rw[hkk]at h2;simp at h2
  | [x,y]=>exact⟨x,y,rfl⟩
  | _::_::_::_=>rw[hkk]at h2;simp at h2
 refine⟨x,y,hks,fun e=>h3 (by rw[e];rfl),.inr h4,?_⟩
 have h5:=h.own;unfold what at h5;rw[if_neg (not_not_intro h1),if_neg hk]at h5
 have e0:ksn a 0=Tr.seen x:=by unfold ksn;rw[hks];rfl
 have e1:ksn a 1=Tr.seen y:=by unfold ksn;rw[hks];rfl
 rwa[e0,e1]at h5
mutual
theorem seen_lv:∀(a:Tr) (j:Nat),(Tr.seen a).testBit j=true→(j:Int)∈lv (Tr.all a)
 | .mk k t h cs ks=>by
  intro j hj
  have hin:∀i:Int,i∈lv (Tr.alls ks)→i∈lv (Tr.all (.mk k t h cs ks)):=fun i hi=>by
   rw[Tr.all_at,lv_app];exact List.mem_append_left _ hi
  rw[Tr.seen]at hj
  split at hj
  ·rename_i hk
   rw[St.testBit_ofN]at hj
   simp at hj
   rw[Tr.all_at,lv_app,lv_one,if_pos (by exact hk)]
   exact List.mem_append_right _ (by rw[hj.2];simp[Tr.t])
  ·split at hj
   ·exact hin _ (A7W ks j hj)
   ·exact hin _ (A4C ks j hj)
theorem A7W:∀(l:List Tr) (j:Nat),(Tr.seen1 l).testBit j=true→(j:Int)∈lv (Tr.alls l)
 | []=>by intro j hj;rw[Tr.seen1]at hj;simp at hj
 | a::r=>by intro j hj;rw[Tr.seen1]at hj;rw[Tr.alls,lv_app];exact List.mem_append_left _ (seen_lv a j hj)
theorem A4C:∀(l:List Tr) (j:Nat),(Tr.seens l).testBit j=true→(j:Int)∈lv (Tr.alls l)
 | []=>by intro j hj;rw[Tr.seens]at hj;simp at hj
 | a::r=>by
  intro j hj;rw[Tr.seens,G7,Bool.or_eq_true]at hj;rw[Tr.alls,lv_app]
  rcases hj with hj | hj
  ·exact List.mem_append_left _ (seen_lv a j hj)
  ·exact List.mem_append_right _ (A4C r j hj)
end
theorem bit_ne {x j:Nat} (h:x.testBit j=true):x≠0:=fun e=>by rw[e]at h;simp at h
mutual
theorem A1o:∀(p:Pd) (j:Nat),(Pr.tables p).testBit j=true→∃c∈Pr.cols p,c.1=(j:Int)
 | .mk f ps=>by
  intro j hj
  have key:∀x:Tm,(Te.tables x).testBit j=true→∃c∈Te.cols x,c.1=(j:Int):=fun x hx=>by
   unfold Te.tables at hx;unfold Te.cols
   split at hx
   ·rename_i hk
    rw[St.testBit_ofN]at hx
    simp at hx
    exact⟨(x.t,x.c),by rw[if_pos hk];simp,hx.2.symm⟩
   ·simp at hx
  rw[Pr.tables,G7,G7,Bool.or_eq_true,Bool.or_eq_true]at hj;rw[Pr.cols]
  rcases hj with(hj | hj) | hj
  ·obtain⟨c,h1,h2⟩:=key _ hj;exact⟨c,by simp[h1],h2⟩
  ·obtain⟨c,h1,h2⟩:=key _ hj;exact⟨c,by simp[h1],h2⟩
  ·obtain⟨c,h1,h2⟩:=tabless_cols ps j hj;exact⟨c,by simp[h1],h2⟩
theorem tabless_cols:∀(l:List Pd) (j:Nat),(Pr.tabless l).testBit j=true→∃c∈Pr.colss l,c.1=(j:Int)
 | []=>by intro j hj;rw[Pr.tabless]at hj;simp at hj
 | p::r=>by
  intro j hj;rw[Pr.tabless,G7,Bool.or_eq_true]at hj;rw[Pr.colss]
  rcases hj with hj | hj
  ·obtain⟨c,h1,h2⟩:=A1o p j hj;exact⟨c,by simp[h1],h2⟩
  ·obtain⟨c,h1,h2⟩:=tabless_cols r j hj;exact⟨c,by simp[h1],h2⟩
end
theorem conj_good {cols:List Int} {l r:Nat} {p:Pd} (h:conj cols l r p=0):Pr.tables p ||| (l ||| r)=l ||| r∧Pr.tables p &&& l≠0∧Pr.tables p &&& r≠0:=by
 unfold conj at h
 split at h
 ·simp at h
 ·split at h
  ·simp at h
  ·rename_i h2
   split at h
   ·simp at h
   ·rename_i h3
    refine⟨?_,fun e=>h3 (.inl e),fun e=>h3 (.inr e)⟩;refine Nat.eq_of_testBit_eq fun j=>?_;rw[G7]
    by_cases ht:(Pr.tables p).testBit j=true
    ·obtain⟨c,hc,hcj⟩:=A1o p j ht
     have ho:out cols l r c=false:=by
      rw[Bool.eq_false_iff];intro hh;exact h2 (F4.2 ⟨c,hc,hh⟩)
     unfold out at ho;rw[Bool.or_eq_false_iff,Bool.and_eq_false_iff]at ho
     have hb:(l ||| r).testBit j=true:=by
      rw[G7,Bool.or_eq_true]
      rcases ho.1 with hh | hh
      ·left
       simp only[Bool.not_eq_false']at hh;unfold St.hasB at hh;simp only[E7]at hh;rw[hcj,Int.toNat_natCast]at hh;exact hh.2.2
      ·right
       simp only[Bool.not_eq_false']at hh;unfold St.hasB at hh;simp only[E7]at hh;rw[hcj,Int.toNat_natCast]at hh;exact hh.2.2
     rw[hb,Bool.or_true]
    ·simp[ht]
theorem tables_lv (a:Tr):Tr.tables a=St.ofN (lv (Tr.all a)):=rfl
theorem tour_lv {cols:List Int} {a:Tr} (h:tour cols a=0):(lv (Tr.all a)).Nodup:=by
 obtain⟨h1,h2⟩:=tour_zero.1 h;rw[run_lv h1]at h2
 simpa using h2
end Ck
namespace Ex
def leaf (t:Int) (d:List (List (List Vl))):List (List (List Vl)):=((d[t.toNat]?).getD []).map fun r=>List.replicate t.toNat []++[r]
def fst (l:List (List (List (List Vl)))):List (List (List Vl)):=(l[0]?).getD []
def snd (l:List (List (List (List Vl)))):List (List (List Vl)):=(l[1]?).getD []
mutual
def tuples (d:List (List (List Vl))):Tr→List (List (List Vl))
 | .mk k t _ cs ks=>if k=0 then leaf t d else Ns.join k cs (fst (tupless d ks)) (snd (tupless d ks))
def tupless (d:List (List (List Vl))):List Tr→List (List (List (List Vl)))
 | []=>[]
 | a::r=>tuples d a::tupless d r
end
theorem tuples_leaf {d:List (List (List Vl))} {a:Tr} (h:a.k=0):tuples d a=leaf a.t d:=by
 obtain⟨k,t,h',cs,ks⟩:=a
 rw[tuples,if_pos (by exact h)];rfl
theorem tuples_op {d:List (List (List Vl))} {a x y:Tr} (h:a.k≠0) (hk:a.ks=[x,y]):tuples d a=Ns.join a.k a.cs (tuples d x) (tuples d y):=by
 obtain⟨k,t,h',cs,ks⟩:=a;change ks=[x,y]at hk;subst hk
 rw[tuples,if_neg (by exact h),tupless,tupless,tupless];rfl
def rows (cols:List Int) (a:Tr) (d:List (List (List Vl))):List (List Vl):=(tuples d a).map fun t=>Mt.flat t (Tr.seen a) cols
def cnt (d:List (List (List Vl))) (a:Tr):Nat:=if a.k=0∧0≤a.t∧a.t<(d.length:Int)then max 1 ((d[a.t.toNat]?).getD []).length else 1
def prod (d:List (List (List Vl))):List Tr→Nat
 | []=>1
 | a::r=>cnt d a*prod d r
theorem A9t (d:List (List (List Vl))) (a:Tr):1≤cnt d a:=by
 unfold cnt;split <;> omega
theorem A0D (d:List (List (List Vl))):∀l,1≤prod d l
 | []=>C3 _
 | a::r=>Nat.mul_le_mul (A9t d a) (A0D d r)
theorem A0E (d:List (List (List Vl))) (m:List Tr):∀l,prod d (l++m)=prod d l*prod d m
 | []=>by simp[prod]
 | a::r=>by rw[G8,prod,prod,A0E d m r,Nat.mul_assoc]
theorem prod_take {d:List (List (List Vl))} {l:List Tr} {q:Nat} {a:Tr} (h:l[q]?=some a):prod d (l.take (q+1))=prod d (l.take q)*cnt d a:=by
 rw[D7,h,A0E]
 show _*(cnt d a*1)=_
 rw[Nat.mul_one]
theorem prod_le {d:List (List (List Vl))} {l:List Tr} (q:Nat):prod d (l.take q)≤prod d l:=by
 have h:prod d l=prod d (l.take q)*prod d (l.drop q):=by rw[←A0E,List.take_append_drop]
 rw[h];exact Nat.le_mul_of_pos_right _ (A0D d _)
theorem all_op {a x y:Tr} (hk:a.ks=[x,y]):Tr.all a=Tr.all x++(Tr.all y++[a]):=by
 rw[Tr.all_at,hk,Tr.alls,Tr.alls,Tr.alls,F3,D4]
theorem all_leaf {a:Tr} (hk:a.ks=[]):Tr.all a=[a]:=by rw[Tr.all_at,hk,Tr.alls,F1]
theorem prod_op {d:List (List (List Vl))} {a x y:Tr} (hk:a.ks=[x,y]) (h:a.k≠0):prod d (Tr.all a)=prod d (Tr.all x)*prod d (Tr.all y):=by
 rw[all_op hk,A0E,A0E]
 have:prod d [a]=1:=by
  show cnt d a*1=1
  unfold cnt;rw[if_neg (fun e=>h e.1)]
 rw[this,Nat.mul_one]
theorem extend_le (k:Int) (ps:List Pd) (t:List (List Vl)) (R:List (List (List Vl))):(Mt.extend k ps t R).length≤max 1 R.length:=by
 have h:=Mt.found_le ps t R;unfold Mt.extend Mt.of
 split
 ·omega
 ·split
  ·simp;omega
  ·simp
theorem A9n (k:Int) (ps:List Pd) (L R:List (List (List Vl))):(Ns.join k ps L R).length≤L.length*max 1 R.length:=by
 induction L with
 | nil=>simp[Ns.join]
 | cons t L ih =>
  have h:=extend_le k ps t R
  have e:Ns.join k ps (t::L) R=Mt.extend k ps t R++Ns.join k ps L R:=by unfold Ns.join;rw[E5]
  rw[e,C6,G5,Nat.succ_mul];omega
theorem A6c {cols:List Int} (d:List (List (List Vl))) (hd:d.length=cols.length) (a:Tr):Ck.Good cols a→(tuples d a).length≤prod d (Tr.all a):=by
 refine Tr.ind (P:=fun a=>Ck.Good cols a→(tuples d a).length≤prod d (Tr.all a)) (fun a ih=>?_) a;intro hg
 by_cases hk:a.k=0
 ·obtain⟨h1,_,h2,h3⟩:=hg.leaf hk;rw[tuples_leaf hk,all_leaf h1]
  show _≤cnt d a*1
  unfold cnt leaf
  rw[if_pos ⟨hk,h2,by omega⟩,E0]
  omega
 ·obtain⟨x,y,h1,_⟩:=hg.op hk;rw[tuples_op hk h1,prod_op h1 hk]
  have hx:=ih x (by rw[h1];simp) (hg.kid (by rw[h1];simp))
  have hy:=ih y (by rw[h1];simp) (hg.kid (by rw[h1];simp))
  refine D5 (A9n _ _ _ _) (Nat.mul_le_mul hx ?_);have:=A0D d (Tr.all y);omega
structure Fit (S:List Int) (t:List (List Vl)):Prop where
 len:t.length≤64
 row:∀x∈t,x.length≤4
 wf:∀x∈t,∀v∈x,-9223372036854775808≤v.2∧v.2≤9223372036854775807
 own:∀i,Mt.row t i≠[]→(i:Int)∈S
theorem Fit.mono {S S':List Int} {t:List (List Vl)} (h:Fit S t) (hS:∀i∈S,i∈S'):Fit S' t:=⟨h.len,h.row,h.wf,fun i hi=>hS _ (h.own i hi)⟩
theorem A8n {a b:List (List Vl)} {x:List Vl} (h:x∈Mt.merge a b):x∈a∨x∈b∨x=[]:=by
 obtain⟨i,_,rfl⟩:=List.mem_map.1 h
 have key:∀t:List (List Vl),Mt.row t i∈t∨Mt.row t i=[]:=fun t=>by
  by_cases hi:i<t.length
  ·exact .inl (C8 (Mt.row_mem hi))
  ·exact .inr (Mt.row_out (by omega))
 unfold Mt.pick
 split
 ·rcases key b with h | h
  ·exact .inr (.inl h)
  ·exact .inr (.inr h)
 ·rcases key a with h | h
  ·exact .inl h
  ·exact .inr (.inr h)
theorem Fit.merge {S S':List Int} {a b:List (List Vl)} (ha:Fit S a) (hb:Fit S' b):Fit (S++S') (Mt.merge a b):=by
 refine⟨by rw[Mt.merge_length];have:=ha.len;have:=hb.len;omega,Mt.merge_mem ha.row hb.row,fun x hx v hv=>?_,fun i hi=>?_⟩
 ·rcases A8n hx with h | h | h
  ·exact ha.wf x h v hv
  ·exact hb.wf x h v hv
  ·rw[h]at hv;simp at hv
 ·rw[Hs.row_merge]at hi;unfold Mt.pick at hi
  split at hi
  ·exact List.mem_append_right _ (hb.own i hi)
  ·exact List.mem_append_left _ (ha.own i hi)
theorem A5R {S S':List Int} {k:Int} {ps:List Pd} {t:List (List Vl)} {R:List (List (List Vl))} (ht:Fit S t) (hR:∀u∈R,Fit S' u):∀u∈Mt.extend k ps t R,Fit (S++S') u:=by
 have h1:∀u∈Mt.found ps t R,Fit (S++S') u:=fun u hu=>by
  unfold Mt.found at hu;obtain⟨v,hv,rfl⟩:=List.mem_map.1 hu;exact ht.merge (hR v (List.mem_filter.1 hv).1)
 intro u hu;unfold Mt.extend Mt.of at hu
 split at hu
 ·exact h1 u hu
 ·split at hu
  ·rw[G4.1 hu];exact ht.mono fun i hi=>List.mem_append_left _ hi
  ·simp at hu
theorem A8w {S S':List Int} {k:Int} {ps:List Pd} {L R:List (List (List Vl))} (hL:∀t∈L,Fit S t) (hR:∀u∈R,Fit S' u):∀u∈Ns.join k ps L R,Fit (S++S') u:=fun u hu=>by
 obtain⟨t,ht,hu⟩:=List.mem_flatMap.1 hu;exact A5R (hL t ht) hR u hu
def Fine (d:List (List (List Vl))):Prop:=d.length≤64∧∀rs∈d,∀x∈rs,x.length≤4∧∀v∈x,-9223372036854775808≤v.2∧v.2≤9223372036854775807
theorem A8q {d:List (List (List Vl))} (hd:Fine d) {t:Int} (h0:0≤t) (h1:t<d.length):∀u∈leaf t d,Fit [t] u:=fun u hu=>by
 obtain⟨r,hr,rfl⟩:=List.mem_map.1 hu
 have hlt:t.toNat<d.length:=by omega
 rw[A8 hlt]at hr;have hm:=hd.2 _ (List.getElem_mem hlt) r hr;have h64:=hd.1
 refine⟨by simp;omega,fun x hx=>?_,fun x hx v hv=>?_,fun i hi=>?_⟩
 ·rcases G3.1 hx with hx | hx
  ·rw[(List.mem_replicate.1 hx).2];simp
  ·rw[G4.1 hx];exact hm.1
 ·rcases G3.1 hx with hx | hx
  ·rw[(List.mem_replicate.1 hx).2]at hv;simp at hv
  ·rw[G4.1 hx]at hv;exact hm.2 v hv
 ·have hi2:i=t.toNat:=by
   unfold Mt.row at hi
   rcases Nat.lt_trichotomy i t.toNat with g | g | g
   ·rw[F2 (by simpa using g),List.getElem?_replicate,if_pos g]at hi;exact absurd rfl hi
   ·exact g
   ·rw[E6 (by simp;omega)]at hi;exact absurd rfl hi
  rw[hi2,Int.toNat_of_nonneg h0];simp
theorem tuples_fit {cols:List Int} {d:List (List (List Vl))} (hd:Fine d) (hl:d.length=cols.length) (a:Tr):Ck.Good cols a→∀u∈tuples d a,Fit (Ck.lv (Tr.all a)) u:=by
 refine Tr.ind (P:=fun a=>Ck.Good cols a→∀u∈tuples d a,Fit (Ck.lv (Tr.all a)) u) (fun a ih=>?_) a;intro hg
 by_cases hk:a.k=0
 ·obtain⟨h1,_,h2,h3⟩:=hg.leaf hk;rw[tuples_leaf hk,all_leaf h1,Ck.lv_one,if_pos hk]
  exact A8q hd h2 (by omega)
 ·obtain⟨x,y,h1,_⟩:=hg.op hk;rw[tuples_op hk h1,all_op h1,Ck.lv_app,Ck.lv_app,Ck.lv_one,if_neg hk,F3]
  exact A8w (ih x (by rw[h1];simp) (hg.kid (by rw[h1];simp))) (ih y (by rw[h1];simp) (hg.kid (by rw[h1];simp)))
theorem A41 {S:List Int} {L:List (List (List Vl))} {b:Tr} (hL:∀u∈L,Fit S u) (hn:∀i∈S,i∉Ck.lv (Tr.all b)):Hs.apart L (Tr.seen b)=true:=by
 refine decide_eq_true fun t ht i hi h64 hb=>?_
 by_cases he:Mt.row t i=[]
 ·rw[he];rfl
 ·exact absurd (Ck.seen_lv b i hb) (hn _ ((hL t ht).own i he))
theorem lv_apart {a x y:Tr} (hk:a.ks=[x,y]) (hn:(Ck.lv (Tr.all a)).Nodup):(Ck.lv (Tr.all x)).Nodup∧(Ck.lv (Tr.all y)).Nodup∧(∀i∈Ck.lv (Tr.all x),i∉Ck.lv (Tr.all y))∧∀i∈Ck.lv (Tr.all y),i∉Ck.lv (Tr.all x):=by
 rw[all_op hk,Ck.lv_app,Ck.lv_app,List.nodup_append]at hn;obtain⟨h1,h2,h3⟩:=hn;have h4:=(List.nodup_append.1 h2).1;exact⟨h1,h4,fun i hi hj=>h3 i hi i (List.mem_append_left _ hj) rfl,fun i hi hj=>h3 i hj i (List.mem_append_left _ hi) rfl⟩
structure Ok (M:Nat) (cols:List Int) (d:List (List (List Vl))) (a:Tr):Prop where
 good:Ck.Good cols a
 nodup:(Ck.lv (Tr.all a)).Nodup
 most:prod d (Tr.all a)≤M
 fine:Fine d
 len:d.length=cols.length
 size:Tr.size a≤1000
theorem Ok.kids {M:Nat} {cols:List Int} {d:List (List (List Vl))} {a x y:Tr} (h:Ok M cols d a) (hk:a.k≠0) (hks:a.ks=[x,y]):Ok M cols d x∧Ok M cols d y:=by
 obtain⟨h1,h2,_,_⟩:=lv_apart hks h.nodup;have hm:=h.most;rw[prod_op hks hk]at hm;have hx:=A0D d (Tr.all x);have hy:=A0D d (Tr.all y);have hs:=h.size;rw[Tr.size_at,hks]at hs;simp only[Tr.sizes]at hs
 exact⟨⟨h.good.kid (by rw[hks];simp),h1,D5 (Nat.le_mul_of_pos_right _ hy) hm,h.fine,h.len,by omega⟩,⟨h.good.kid (by rw[hks];simp),h2,D5 (Nat.le_mul_of_pos_left _ hx) hm,h.fine,h.len,by omega⟩⟩
theorem Ok.few {M:Nat} {cols:List Int} {d:List (List (List Vl))} {a:Tr} (h:Ok M cols d a) (hM:M≤10000):Ns.Few 10000 100 (tuples d a) :=
 ⟨D5 (A6c d h.len a h.good) (D5 h.most hM),fun t ht=>by
  have hf:=tuples_fit h.fine h.len a h.good t ht
  exact⟨by have:=hf.len;omega,fun x hx=>by have:=hf.row x hx;omega⟩⟩
theorem Ok.apart {M:Nat} {cols:List Int} {d:List (List (List Vl))} {a x y:Tr} (h:Ok M cols d a) (hks:a.ks=[x,y]):Hs.apart (tuples d x) (Tr.seen y)=true∧Hs.apart (tuples d y) (Tr.seen x)=true:=by
 obtain⟨_,_,h3,h4⟩:=lv_apart hks h.nodup
 exact⟨A41 (tuples_fit h.fine h.len x (h.good.kid (by rw[hks];simp))) h3,A41 (tuples_fit h.fine h.len y (h.good.kid (by rw[hks];simp))) h4⟩
theorem Ok.hash {M:Nat} {cols:List Int} {d:List (List (List Vl))} {a x y:Tr} (h:Ok M cols d a) (hk:a.k≠0) (hks:a.ks=[x,y]):Hs.join a.k a.cs (Tr.seen x) (Tr.seen y) (tuples d x) (tuples d y)=tuples d a:=by
 rw[Hs.join_same (h.apart hks).1 (h.apart hks).2,tuples_op hk hks]
theorem A7g {cols:List Int} {d:List (List (List Vl))} (h:Ck.fitAll cols d=true):∀(j:Nat) (rs:List (List Vl)) (m:Int),d[j]?=some rs→cols[j]?=some m→rs.length≤1000∧∀r∈rs,(r.length:Int)=m:=by
 intro j rs m h1 h2;unfold Ck.fitAll at h
 have h3:=F6.1 h (rs,m) (by
  have h4:(d.zip cols)[j]?=some (rs,m):=by rw[List.getElem?_zip_eq_some];exact⟨h1,h2⟩
  exact C8 h4)
 unfold Ck.fits at h3;rw[E7,decide_eq_true_iff]at h3;refine⟨h3.1,fun r hr=>?_⟩;have h5:=F6.1 h3.2 r hr;rw[E7,decide_eq_true_iff]at h5;exact h5.1
structure Sound (cols:List Int) (d:List (List (List Vl))) (a:Tr):Prop where
 wide:cols.length≤64
 len:d.length=cols.length
 col:∀x∈cols,1≤x∧x≤4
 good:Ck.Good cols a
 nodup:(Ck.lv (Tr.all a)).Nodup
 rows:∀(j:Nat) (rs:List (List Vl)) (m:Int),d[j]?=some rs→cols[j]?=some m→rs.length≤1000∧∀r∈rs,(r.length:Int)=m
theorem sound_of {cols:List Int} {d:List (List (List Vl))} {a:Tr} (h:Ck.data cols a d=0):Sound cols d a:=by
 unfold Ck.data at h
 split at h
 ·rename_i hq;exact absurd h hq
 ·rename_i hq
  split at h
  ·simp at h
  ·rename_i hl
   split at h
   ·rename_i hf
    obtain⟨h1,h2,h3⟩:=Ck.query_right (Decidable.not_not.1 hq);obtain⟨h4,h5⟩:=Ck.tour_zero.1 h3;have h6:=Ck.run_lv h4;rw[h6,F1]at h5;exact⟨h1,Decidable.not_not.1 hl,h2,Ck.good_of h3,h5,A7g hf⟩
   ·simp at h
theorem Sound.fine {cols:List Int} {d:List (List (List Vl))} {a:Tr} (h:Sound cols d a) (hw:∀rs∈d,∀x∈rs,∀v∈x,-9223372036854775808≤v.2∧v.2≤9223372036854775807):Fine d:=by
 refine⟨by have:=h.len;have:=h.wide;omega,fun rs hrs x hx=>⟨?_,hw rs hrs x hx⟩⟩
 obtain⟨j,hj,rfl⟩:=F9.1 hrs
 have hc:j<cols.length:=by have:=h.len;omega
 have h1:=(h.rows j _ _ (A8 hj) (A8 hc)).2 x hx;have h2:=h.col _ (List.getElem_mem hc);omega
theorem Sound.ok {M:Nat} {cols:List Int} {d:List (List (List Vl))} {a:Tr} (h:Sound cols d a) (hw:∀rs∈d,∀x∈rs,∀v∈x,-9223372036854775808≤v.2∧v.2≤9223372036854775807) (hm:prod d (Tr.all a)≤M) (hs:Tr.size a≤1000):Ok M cols d a :=
 ⟨h.good,h.nodup,hm,h.fine hw,h.len,hs⟩
end Ex
namespace Id
abbrev Tu:=Nat→List Vl
def mg (f g:Tu):Tu:=fun i=>if(f i).length=0 then g i else f i
theorem A0F (e f g:Tu):mg (mg e f) g=mg e (mg f g):=by
 funext i
 unfold mg
 by_cases h:(e i).length=0 <;> simp[h]
def Ap (f g:Tu):Prop:=∀i,f i=[]∨g i=[]
theorem A32 {f g:Tu} (h:Ap f g):mg f g=mg g f:=by
 funext i
 unfold mg
 rcases h i with h | h <;> rw[h] <;> by_cases h2:(f i).length=0 <;> by_cases h3:(g i).length=0 <;> simp_all
theorem A8m {e f g:Tu} (h:Ap f g):mg (mg e f) g=mg (mg e g) f:=by rw[A0F,A32 h,←A0F]
theorem A9l {e f g:Tu} (h:Ap e f):mg e (mg f g)=mg f (mg e g):=by rw[←A0F,A32 h,A0F]
def of (k:Int) (t:Tu) (m:List Tu):List Tu:=if k=1∨(k=2∧m≠[])then m.map (mg t)else if k=2∨(k=3∧m≠[])∨(k=4∧m=[])then [t]else []
def ext (k:Int) (P:Tu→Bool) (t:Tu) (R:List Tu):List Tu:=of k t (R.filter fun u=>P (mg t u))
def join (k:Int) (P:Tu→Bool) (L R:List Tu):List Tu:=L.flatMap fun t=>ext k P t R
theorem A9S (t:Tu) (m:List Tu):of 1 t m=m.map (mg t):=if_pos (.inl rfl)
theorem join_one (P:Tu→Bool) (L R:List Tu):join 1 P L R=L.flatMap fun t=>(R.filter fun u=>P (mg t u)).map (mg t):=by
 unfold join ext;simp only[A9S]
theorem B0a (k:Int) (e f:Tu) (m:List Tu):of k (mg e f) m=(of k f m).map (mg e):=by
 unfold of
 split
 ·rw[List.map_map];refine List.map_congr_left fun g _=>A0F e f g
 ·split <;> simp
theorem L8 {α β:Type} {l:List α} {f g:α→List β} (h:∀a∈l,f a=g a):l.flatMap f=l.flatMap g:=by
 induction l with
 | nil=>rfl
 | cons a l ih=>rw[E5,E5,h a E9,ih fun b hb=>h b (F7 _ hb)]
theorem Y3 {α β:Type} (p:α→Bool) (l:List α) (f:α→List β):(l.filter p).flatMap f=l.flatMap fun a=>if p a then f a else []:=by
 induction l with
 | nil=>rfl
 | cons a l ih =>
  rw[List.filter_cons,E5]
  cases h:p a <;> simp[ih]
theorem A1V {α β:Type} (p:β→Bool) (l:List α) (f:α→List β):(l.flatMap f).filter p=l.flatMap fun a=>(f a).filter p:=by
 induction l with
 | nil=>rfl
 | cons a l ih=>rw[E5,E5,List.filter_append,ih]
theorem A0x {α β γ:Type} (g:β→γ) (l:List α) (f:α→List β):(l.flatMap f).map g=l.flatMap fun a=>(f a).map g:=by
 induction l with
 | nil=>rfl
 | cons a l ih=>rw[E5,E5,List.map_append,ih]
theorem Q6 {α β γ:Type} (l:List α) (f:α→List β) (g:β→List γ):(l.flatMap f).flatMap g=l.flatMap fun a=>(f a).flatMap g:=by
 induction l with
 | nil=>rfl
 | cons a l ih=>rw[E5,E5,List.flatMap_append,ih]
theorem T5 {α β γ:Type} (l:List α) (f:α→β) (g:β→List γ):(l.map f).flatMap g=l.flatMap fun a=>g (f a):=by
 induction l with
 | nil=>rfl
 | cons a l ih=>rw[List.map_cons,E5,E5,ih]
theorem A1q {α β γ:Type} (l:List α) (m:List β) (h:α→β→List γ):(l.flatMap fun a=>m.flatMap fun b=>h a b).Perm (m.flatMap fun b=>l.flatMap fun a=>h a b):=by
 induction l with
 | nil=>simp
 | cons a l ih =>
  have key:∀m:List β,(m.flatMap fun b=>(a::l).flatMap fun a=>h a b).Perm ((m.flatMap fun b=>h a b)++(m.flatMap fun b=>l.flatMap fun a=>h a b)):=fun m=>by
   induction m with
   | nil=>simp
   | cons b m ih2 =>
    simp only[E5]at ih2 ⊢;have h1:((h a b++l.flatMap fun a=>h a b)++(m.flatMap fun b=>h a b++l.flatMap fun a=>h a b)).Perm ((h a b++l.flatMap fun a=>h a b)++((m.flatMap fun b=>h a b)++(m.flatMap fun b=>l.flatMap fun a=>h a b))):=List.Perm.append_left _ ih2;refine h1.trans ?_;rw[D4,D4];refine List.Perm.append_left _ ?_;rw[←D4,←D4];exact List.Perm.append_right _ List.perm_append_comm
  rw[E5];exact(List.Perm.append_left _ ih).trans (key m).symm
theorem T6 {α β:Type} {l:List α} {f g:α→List β} (h:∀a∈l,(f a).Perm (g a)):(l.flatMap f).Perm (l.flatMap g):=by
 induction l with
 | nil=>exact List.Perm.refl _
 | cons a l ih =>
  rw[E5,E5];exact(h a E9).append (ih fun b hb=>h b (F7 _ hb))
theorem turn {A:Tu→Bool} {E F:List Tu} (hap:∀e∈E,∀f∈F,Ap e f):(join 1 A E F).Perm (join 1 A F E):=by
 have key:∀(X Y:List Tu),join 1 A X Y=X.flatMap fun e=>Y.flatMap fun f=>if A (mg e f)then [mg e f]else []:=fun X Y=>by
  rw[join_one];refine L8 fun e _=>?_
  induction Y with
  | nil=>rfl
  | cons f Y ih =>
   rw[List.filter_cons,E5]
   cases h:A (mg e f) <;> simp[ih]
 rw[key,key];refine(A1q E F _).trans (T6 fun f hf=>?_)
 rw[L8 (g:=fun e=>if A (mg f e)then [mg f e]else []) fun e he=>by rw[A32 (hap e he f hf)]]
theorem A82 {k:Int} {B:Tu→Bool} {e f:Tu} {G:List Tu} (hB:∀g∈G,B (mg (mg e f) g)=B (mg f g)):ext k B (mg e f) G=(ext k B f G).map (mg e):=by
 unfold ext;rw[B0a,List.filter_congr hB]
theorem A7k {k:Int} {B:Tu→Bool} {f x:Tu} {G:List Tu} (h:x∈ext k B f G):x=f∨∃g∈G,x=mg f g:=by
 unfold ext of at h
 split at h
 ·obtain⟨g,hg,rfl⟩:=List.mem_map.1 h;exact .inr ⟨g,(List.mem_filter.1 hg).1,rfl⟩
 ·split at h
  ·exact .inl (G4.1 h)
  ·simp at h
theorem A3y {α:Type} {l:List α} {p:α→Bool} {b:Bool} (h:∀x∈l,p x=b):l.filter p=if b then l else []:=by
 cases b with
 | true=>exact List.filter_eq_self.2 h
 | false=>exact List.filter_eq_nil_iff.2 fun x hx=>by rw[h x hx];exact Bool.false_ne_true
theorem A2l {k:Int} {A B:Tu→Bool} {e:Tu} {F G:List Tu} (hA:∀f∈F,∀g∈G,A (mg e (mg f g))=A (mg e f)) :
  ((join k B F G).filter fun x=>A (mg e x))=(F.filter fun f=>A (mg e f)).flatMap fun f=>ext k B f G:=by
 unfold join;rw[A1V,Y3];refine L8 fun f hf=>?_;refine A3y fun x hx=>?_
 rcases A7k hx with rfl | ⟨g,hg,rfl⟩
 ·rfl
 ·exact hA f hf g hg
theorem A27 {k:Int} {A B:Tu→Bool} {E F G:List Tu} (hA:∀e∈E,∀f∈F,∀g∈G,A (mg e (mg f g))=A (mg e f)) (hB:∀e∈E,∀f∈F,∀g∈G,B (mg (mg e f) g)=B (mg f g)) :
  join k B (join 1 A E F) G=join 1 A E (join k B F G):=by
 rw[join_one,join_one]
 show(E.flatMap _).flatMap _=_
 rw[Q6];refine L8 fun e he=>?_;rw[T5,A2l (hA e he),A0x];refine L8 fun f hf=>?_;exact A82 (hB e he f (List.mem_filter.1 hf).1)
theorem N1 {A B:Tu→Bool} {E F G:List Tu} (hA:∀e∈E,∀f∈F,∀g∈G,A (mg e (mg f g))=A (mg e f)) (hB:∀e∈E,∀f∈F,∀g∈G,B (mg (mg e f) g)=B (mg f g)) (hN:∀e∈E,∀g∈G,B (mg e g)=false) :
  join 2 B (join 2 A E F) G=join 2 A E (join 2 B F G):=by
 have hne:∀f,ext 2 B f G≠[]:=fun f h=>by
  unfold ext of at h
  split at h
  ·rename_i hc
   rcases hc with hc | hc
   ·simp at hc
   ·exact hc.2 (List.map_eq_nil_iff.1 h)
  ·rw[if_pos (.inl rfl)]at h;simp at h
 show(E.flatMap _).flatMap _=E.flatMap _
 rw[Q6];refine L8 fun e he=>?_
 show(ext 2 A e F).flatMap (fun t=>ext 2 B t G)=of 2 e ((join 2 B F G).filter fun x=>A (mg e x))
 rw[A2l (hA e he)];unfold ext;obtain⟨m,hm⟩:∃m,m=F.filter fun f=>A (mg e f):=⟨_,rfl⟩
 have hmF:∀f∈m,f∈F:=fun f hf=>by rw[hm]at hf;exact(List.mem_filter.1 hf).1
 rw[←hm]
 cases m with
 | nil =>
  have h0:(G.filter fun u=>B (mg e u))=[]:=List.filter_eq_nil_iff.2 fun g hg=>by rw[hN e he g hg];exact Bool.false_ne_true
  show(of 2 e []).flatMap (fun t=>of 2 t (G.filter fun u=>B (mg t u)))=of 2 e []
  have h1:of 2 e []=[e]:=by simp[of]
  rw[h1,E5,h0,h1]
  rfl
 | cons f m =>
  have h1:of 2 e (f::m)=(f::m).map (mg e):=if_pos (.inr ⟨rfl,List.cons_ne_nil _ _⟩)
  have h2:((f::m).flatMap fun f=>of 2 f (G.filter fun u=>B (mg f u)))≠[]:=fun h=>by
   rw[E5]at h;exact hne f (List.append_eq_nil_iff.1 h).1
  rw[h1,of,if_pos (.inr ⟨rfl,h2⟩),T5,A0x];exact L8 fun x hx=>A82 (hB e he x (hmF x hx))
theorem A9T (k:Int) (m:List Tu):(∃b:Bool,∀t,of k t m=if b then m.map (mg t)else [t])∨∀t,of k t m=[]:=by
 unfold of
 by_cases h:k=1∨(k=2∧m≠[])
 ·exact .inl ⟨true,fun t=>by rw[if_pos h];rfl⟩
 ·by_cases h2:k=2∨(k=3∧m≠[])∨(k=4∧m=[])
  ·exact .inl ⟨false,fun t=>by rw[if_neg h,if_pos h2];rfl⟩
  ·exact .inr fun t=>by rw[if_neg h,if_neg h2]
theorem A99 {ka kb:Int} {e:Tu} {fm gm:List Tu} (hap:∀f∈fm,∀g∈gm,Ap f g):((of ka e fm).flatMap fun t=>of kb t gm).Perm ((of kb e gm).flatMap fun t=>of ka t fm):=by
 rcases A9T ka fm with⟨a,ha⟩ | ha <;> rcases A9T kb gm with⟨b,hb⟩ | hb
 ·rw[ha,hb,L8 fun t _=>hb t,L8 (l:=if b=true then gm.map (mg e)else [e]) fun t _=>ha t]
  cases a <;> cases b
  ·exact List.Perm.refl _
  ·simp only[if_true,Bool.false_eq_true,if_false,E5,List.flatMap_nil,F3];rw[T5];rw[←List.map_eq_flatMap]
  ·simp only[if_true,Bool.false_eq_true,if_false,E5,List.flatMap_nil,F3];rw[T5];rw[←List.map_eq_flatMap]
  ·simp only[if_true];rw[T5,T5];have h1:∀(X Y:List Tu),(X.flatMap fun f=>Y.map (mg (mg e f)))=X.flatMap fun f=>Y.flatMap fun g=>[mg (mg e f) g]:=fun X Y=>L8 fun f _=>List.map_eq_flatMap;rw[h1,h1];refine(A1q fm gm _).trans (T6 fun g hg=>?_)
   rw[L8 (g:=fun f=>[mg (mg e g) f]) fun f hf=>by rw[A8m (hap f hf g hg)]]
 ·rw[L8 fun t _=>hb t,hb];rw[List.flatMap_eq_nil_iff.2 fun _ _=>rfl];exact List.Perm.refl _
 ·rw[ha,L8 (l:=of kb e gm) fun t _=>ha t];rw[List.flatMap_eq_nil_iff.2 fun _ _=>rfl];exact List.Perm.refl _
 ·rw[ha,hb];exact List.Perm.refl _
theorem A81 {ka kb:Int} {A B:Tu→Bool} {e:Tu} {F G:List Tu} (hB:∀f∈F,∀g∈G,B (mg (mg e f) g)=B (mg e g)) :
  ((ext ka A e F).flatMap fun t=>ext kb B t G)=(of ka e (F.filter fun f=>A (mg e f))).flatMap fun t=>of kb t (G.filter fun g=>B (mg e g)):=by
 refine L8 fun x hx=>?_
 rcases A7k hx with rfl | ⟨f,hf,rfl⟩
 ·rfl
 ·exact congrArg (of kb (mg e f)) (List.filter_congr fun g hg=>hB f hf g hg)
theorem swap {ka kb:Int} {A B:Tu→Bool} {E F G:List Tu} (hap:∀f∈F,∀g∈G,Ap f g) (hA:∀e∈E,∀f∈F,∀g∈G,A (mg (mg e g) f)=A (mg e f)) (hB:∀e∈E,∀f∈F,∀g∈G,B (mg (mg e f) g)=B (mg e g)) :
  (join kb B (join ka A E F) G).Perm (join ka A (join kb B E G) F):=by
 show((E.flatMap _).flatMap _).Perm ((E.flatMap _).flatMap _)
 rw[Q6,Q6];refine T6 fun e he=>?_;rw[A81 (hB e he),A81 fun g hg f hf=>hA e he f hf g hg];exact A99 fun f hf g hg=>hap f (List.mem_filter.1 hf).1 g (List.mem_filter.1 hg).1
theorem A4T (P:Tu→Bool) (X Y:List Tu):join 1 P X Y=X.flatMap fun e=>Y.flatMap fun f=>if P (mg e f)then [mg e f]else []:=by
 rw[join_one];refine L8 fun e _=>?_
 induction Y with
 | nil=>rfl
 | cons f Y ih =>
  rw[List.filter_cons,E5]
  cases h:P (mg e f) <;> simp[ih]
theorem exchange {A B:Tu→Bool} {E F G:List Tu} (hap:∀e∈E,∀f∈F,Ap e f) (hA:∀e∈E,∀f∈F,∀g∈G,A (mg e (mg f g))=A (mg e g)) (hB:∀e∈E,∀f∈F,∀g∈G,B (mg f (mg e g))=B (mg f g)) :
  (join 1 A E (join 1 B F G)).Perm (join 1 B F (join 1 A E G)):=by
 have key:∀(A B:Tu→Bool) (E F:List Tu),(∀e∈E,∀f∈F,∀g∈G,A (mg e (mg f g))=A (mg e g)) →
   join 1 A E (join 1 B F G)=E.flatMap fun e=>F.flatMap fun f=>G.flatMap fun g=>if A (mg e g)&&B (mg f g)then [mg e (mg f g)]else []:=fun A B E F h=>by
  rw[A4T];refine L8 fun e he=>?_;rw[A4T,Q6];refine L8 fun f hf=>?_;rw[Q6];refine L8 fun g hg=>?_
  cases hb:B (mg f g)
  ·simp
  ·simp[h e he f hf g hg]
 rw[key A B E F hA,key B A F E fun f hf e he g hg=>hB e he f hf g hg];refine(A1q E F _).trans (T6 fun f hf=>T6 fun e he=>?_)
 rw[L8 (g:=fun g=>if B (mg f g)&&A (mg e g)then [mg f (mg e g)]else []) fun g _=>by rw[Bool.and_comm,A9l (hap e he f hf)]]
theorem A9i {k:Int} {t:Tu} {m n:List Tu} (h:m.Perm n):(of k t m).Perm (of k t n):=by
 have he:m=[]↔n=[]:=⟨fun hm=>by rw[hm]at h;exact h.symm.eq_nil,fun hn=>by rw[hn]at h;exact h.eq_nil⟩
 unfold of;simp only[ne_eq,he]
 split
 ·exact h.map _
 ·exact List.Perm.refl _
theorem A0Q {α β:Type} {l m:List α} {f:α→List β} (h:l.Perm m):(l.flatMap f).Perm (m.flatMap f):=by
 induction h with
 | nil=>exact List.Perm.refl _
 | cons a _ ih=>rw[E5,E5];exact List.Perm.append_left _ ih
 | swap a b l =>
  simp only[E5];rw[←D4,←D4];exact List.Perm.append_right _ List.perm_append_comm
 | trans _ _ h1 h2=>exact h1.trans h2
theorem A64 {k:Int} {P:Tu→Bool} {L M R S:List Tu} (hl:L.Perm M) (hr:R.Perm S):(join k P L R).Perm (join k P M S) :=
 (A0Q hl).trans (T6 fun _ _=>A9i (hr.filter _))
end Id
namespace Id
def may (how a b:Int):Bool :=
 (how == 1&&a == 1)||((how == 2||how == 3)&&((a == 1&&decide (1≤b∧b≤4))||(a == 2&&b == 2))) ||
  (how == 4&&(decide (1≤a∧a≤4)&&decide (1≤b∧b≤4)))||(how == 5&&(a == 1&&b == 1))
def on (o x y:Tr):Tr:=.mk o.k 0 o.h o.cs [x,y]
structure Prt where
 a:Tr
 b:Tr
 e:Tr
 f:Tr
 g:Tr
def zero:Tr:=.mk 0 0 false [] []
def alone (t:Tr):Option Prt:=match t.ks with
 | [e,f]=>some ⟨t,zero,e,f,zero⟩
 | _=>none
def first(t:Tr):Option Prt:=match t.ks with
 | [x,g]=>(match x.ks with
  | [e,f]=>some ⟨x,t,e,f,g⟩
  | _=>none)
 | _=>none
def second (t:Tr):Option Prt:=match t.ks with
 | [e,y]=>(match y.ks with
  | [f,g]=>some ⟨t,y,e,f,g⟩
  | _=>none)
 | _=>none
def named (o n:Tr):Nat:=Pr.tabless o.cs &&& Tr.tables n
def firm (p:Prt):Bool:=!(p.a.k == 2&&p.b.k == 2)||Rj.rejects (named p.b p.f) p.b.cs
def apart (how:Nat) (t:Tr):Option Prt:=if how=1 then alone t else if how=2∨how=4 then first t else second t
def holds (how:Nat) (p:Prt):Bool :=
 if how=1 then true else if how=2 then named p.b p.e == 0&&firm p else if how=3 then named p.a p.g == 0&&firm p
 else if how=4 then named p.b p.f == 0 else named p.a p.f == 0
def made (how:Nat) (p:Prt):Tr :=
 if how=1 then on p.a p.f p.e else if how=2 then on p.a p.e (on p.b p.f p.g)else if how=3 then on p.b (on p.a p.e p.f) p.g
 else if how=4 then on p.a (on p.b p.e p.g) p.f else on p.b p.f (on p.a p.e p.g)
def doo (how:Nat) (t:Tr):Option Tr:=(apart how t).bind fun p=>if may how p.a.k p.b.k&&holds how p then some (made how p)else none
def here (t:Tr):List Tr:=[1,2,3,4,5].filterMap fun h=>doo h t
def around (c:List Tr→Tr):List Tr→List (List Tr)→List Tr
 | [x,y],[l,m]=>l.map (fun v=>c [v,y])++m.map (fun v=>c [x,v])
 | _,_=>[]
mutual
def ways:Tr→List Tr
 | .mk k t h cs ks=>here (.mk k t h cs ks)++around (.mk k t h cs) ks (wayss ks)
def wayss:List Tr→List (List Tr)
 | []=>[]
 | a::r=>ways a::wayss r
end
theorem ways_two {a x y:Tr} (h:a.ks=[x,y]):ways a=here a++((ways x).map (fun v=>Tr.mk a.k a.t a.h a.cs [v,y])++(ways y).map (fun v=>Tr.mk a.k a.t a.h a.cs [x,v])):=by
 obtain⟨k,t,h',cs,ks⟩:=a;change ks=[x,y]at h;subst h;rw[ways,wayss,wayss,wayss];rfl
theorem ways_not {a:Tr} (h:a.ks.length≠2):ways a=here a:=by
 obtain⟨k,t,h',cs,ks⟩:=a;change ks.length≠2 at h;rw[ways]
 match ks,h with
 | [],_=>rw[wayss];exact F3 _
 | [_],_=>rw[wayss,wayss];exact F3 _
 | _::_::_::_,_=>rw[wayss,wayss,wayss];exact F3 _
def back (f:Tu):List (List Vl):=(List.range 64).map f
theorem Z6 (f:Tu):(back f).length=64:=by simp[back]
theorem A1c (f:Tu) (j:Nat):Mt.row (back f) j=if j<64 then f j else []:=by
 by_cases h:j<64
 ·rw[if_pos h];refine Mt.row_at ?_;unfold back;rw[F5,List.getElem?_range h];rfl
 ·rw[if_neg h,Mt.row_out (by rw[Z6];omega)]
def P (cs:List Pd) (f:Tu):Bool:=decide (Lo.andI (cs.map (Pr.of (back f)))=2)
theorem A4y {x:Tm} {r s:List (List Vl)} (hr:r.length≤64) (hs:s.length≤64) (h:∀j,(Te.tables x).testBit j=true→Mt.row r j=Mt.row s j):Te.val x r=Te.val x s:=by
 by_cases hk:x.k=1
 ·rw[Te.val_col hk,Te.val_col hk]
  by_cases ht:0≤x.t∧x.t<64
  ·have hb:(Te.tables x).testBit x.t.toNat=true:=by
    unfold Te.tables;rw[if_pos hk,St.testBit_ofN]
    simp
    omega
   rw[Hs.col_row ht.1,Hs.col_row ht.1,h _ hb]
  ·rw[Te.col_out (rs:=r) (by omega),Te.col_out (rs:=s) (by omega)]
 ·rw[Te.val_other hk,Te.val_other hk]
theorem A6Z {f:Pf} {r s:List (List Vl)} {l:List Int} (ha:Te.val f.a r=Te.val f.a s) (hb:Te.val f.b r=Te.val f.b s):Pr.made f r l=Pr.made f s l:=by
 unfold Pr.made;rw[ha,hb]
theorem N9 {l:List Pd} {p:Pd} (h:p∈l) {j:Nat} (hj:(Pr.tables p).testBit j=true):(Pr.tabless l).testBit j=true:=by
 induction l with
 | nil=>simp at h
 | cons q r ih =>
  rw[Pr.tabless,G7,Bool.or_eq_true]
  rcases List.mem_cons.1 h with rfl | h
  ·exact .inl hj
  ·exact .inr (ih h)
theorem A0w {l:List Pd} {j:Nat} (hj:(Pr.tabless l).testBit j=true):∃p∈l,(Pr.tables p).testBit j=true:=by
 induction l with
 | nil=>rw[Pr.tabless]at hj;simp at hj
 | cons q r ih =>
  rw[Pr.tabless,G7,Bool.or_eq_true]at hj
  rcases hj with hj | hj
  ·exact⟨q,E9,hj⟩
  ·obtain⟨p,hp,h⟩:=ih hj;exact⟨p,F7 _ hp,h⟩
theorem A6U {r s:List (List Vl)} (hr:r.length≤64) (hs:s.length≤64):∀(n:Nat) (p:Pd),Pr.size p≤n→(∀j,(Pr.tables p).testBit j=true→Mt.row r j=Mt.row s j)→Pr.of r p=Pr.of s p:=by
 intro n
 induction n with
 | zero=>intro p h;have:=Pr.size_pos p;omega
 | succ n ih =>
  intro p hn h
  have hb:∀j,(Pr.tables p).testBit j=(((Te.tables p.f.a).testBit j||(Te.tables p.f.b).testBit j)||(Pr.tabless p.ps).testBit j):=fun j=>by
   rw[Pr.tables_at,G7,G7]
  rw[Pr.of_at,Pr.of_at]
  have e:p.ps.map (Pr.of r)=p.ps.map (Pr.of s):=List.map_congr_left fun q hq=>ih q (by
   obtain⟨j,hj⟩:=List.mem_iff_getElem?.1 hq;have:=Pr.sizes_at hj;rw[Pr.size_at]at hn
   omega) fun j hj=>h j (by rw[hb,N9 hq hj,Bool.or_true])
  rw[e]
  exact A6Z (A4y hr hs fun j hj=>h j (by rw[hb,hj];simp)) (A4y hr hs fun j hj=>h j (by rw[hb,hj];simp))
theorem A0T {cs:List Pd} {f g:Tu} (h:∀j,(Pr.tabless cs).testBit j=true→f j=g j):P cs f=P cs g:=by
 have e:cs.map (Pr.of (back f))=cs.map (Pr.of (back g)):=List.map_congr_left fun p hp=>A6U (Nat.le_of_eq (Z6 f)) (Nat.le_of_eq (Z6 g)) _ p (C3 _) fun j hj=>by
  rw[A1c,A1c,h j (N9 hp hj)]
 unfold P;rw[e]
theorem row_merge (a b:List (List Vl)):Mt.row (Mt.merge a b)=mg (Mt.row a) (Mt.row b):=by
 funext i
 rw[Hs.row_merge]
 rfl
theorem A94 {cs:List Pd} {t u:List (List Vl)} (ht:t.length≤64) (hu:u.length≤64):Mt.fits cs t u=P cs (mg (Mt.row t) (Mt.row u)):=by
 have hm:(Mt.merge t u).length≤64:=by rw[Mt.merge_length];omega
 have e:cs.map (Pr.of (Mt.merge t u))=cs.map (Pr.of (back (mg (Mt.row t) (Mt.row u)))):=List.map_congr_left fun p hp=>A6U hm (Nat.le_of_eq (Z6 _)) _ p (C3 _) fun j _=>by
  rw[A1c,←row_merge]
  by_cases h:j<64
  ·rw[if_pos h]
  ·rw[if_neg h,Mt.row_out (by omega)]
 unfold Mt.fits P;rw[e]
theorem A5Q {k:Int} {cs:List Pd} {t:List (List Vl)} {R:List (List (List Vl))} (ht:t.length≤64) (hR:∀u∈R,u.length≤64):(Mt.extend k cs t R).map Mt.row=ext k (P cs) (Mt.row t) (R.map Mt.row):=by
 have hf:(R.map Mt.row).filter (fun u=>P cs (mg (Mt.row t) u))=(R.filter (Mt.fits cs t)).map Mt.row:=by
  rw[List.filter_map]
  congr 1
  refine List.filter_congr fun u hu=>?_;exact(A94 ht (hR u hu)).symm
 unfold Mt.extend Mt.of ext of;rw[hf]
 have hl:(Mt.found cs t R).length=(R.filter (Mt.fits cs t)).length:=by unfold Mt.found;rw[E0]
 have hne:(List.map Mt.row (R.filter (Mt.fits cs t))≠[])↔0<(Mt.found cs t R).length:=by
  rw[hl,List.length_pos_iff]
  simp
 have heq:(List.map Mt.row (R.filter (Mt.fits cs t))=[])↔¬0<(Mt.found cs t R).length:=by
  rw[←hne];simp
 simp only[hne,heq]
 split
 ·unfold Mt.found;rw[List.map_map,List.map_map];refine List.map_congr_left fun u _=>row_merge t u
 ·split
  ·rfl
  ·rfl
theorem A8v {k:Int} {cs:List Pd} {L R:List (List (List Vl))} (hL:∀t∈L,t.length≤64) (hR:∀u∈R,u.length≤64):(Ns.join k cs L R).map Mt.row=join k (P cs) (L.map Mt.row) (R.map Mt.row):=by
 unfold Ns.join join;rw[A0x,T5];exact L8 fun t ht=>A5Q (hL t ht) hR
def T (d:List (List (List Vl))) (a:Tr):List Tu:=(Ex.tuples d a).map Mt.row
def Own (S:List Int) (f:Tu):Prop:=∀i,f i≠[]→(i:Int)∈S
theorem Own.nil {S:List Int} {f:Tu} (h:Own S f) {i:Nat} (hi:(i:Int)∉S):f i=[]:=Decidable.byContradiction fun e=>hi (h i e)
theorem A1R {cols:List Int} {d:List (List (List Vl))} (hd:Ex.Fine d) (hl:d.length=cols.length) {a:Tr} (hg:Ck.Good cols a):∀f∈T d a,Own (Ck.lv (Tr.all a)) f:=fun f hf=>by
 obtain⟨t,ht,rfl⟩:=List.mem_map.1 hf;exact(Ex.tuples_fit hd hl a hg t ht).own
theorem A2r {cols:List Int} {d:List (List (List Vl))} (hd:Ex.Fine d) (hl:d.length=cols.length) {o x y:Tr} (hk:o.k≠0) (hx:Ck.Good cols x) (hy:Ck.Good cols y):T d (on o x y)=join o.k (P o.cs) (T d x) (T d y):=by
 unfold T;rw[Ex.tuples_op (a:=on o x y) hk rfl];exact A8v (fun t ht=>(Ex.tuples_fit hd hl x hx t ht).len) (fun t ht=>(Ex.tuples_fit hd hl y hy t ht).len)
theorem A97 {f g:Tu} {j:Nat} (h:g j=[]):mg f g j=f j:=by
 unfold mg
 split
 ·rename_i e;rw[h,D6 e]
 ·rfl
theorem B0b {f g:Tu} {j:Nat} (h:f j=[]):mg f g j=g j:=by
 unfold mg;rw[h];rfl
theorem A9D {f f' g g':Tu} {j:Nat} (hf:f j=f' j) (hg:g j=g' j):mg f g j=mg f' g' j:=by
 unfold mg;rw[hf,hg]
theorem A9z {S S':List Int} {f g:Tu} (hf:Own S f) (hg:Own S' g) (h:∀i∈S,i∉S'):Ap f g:=fun i=>by
 by_cases hi:(i:Int)∈S
 ·exact .inr (hg.nil (h _ hi))
 ·exact .inl (hf.nil hi)
mutual
theorem A1Q:∀(p:Pd) (c:Int × Int),c∈Pr.cols p→0≤c.1→c.1≤63→(Pr.tables p).testBit c.1.toNat=true
 | .mk f ps=>by
  intro c hc h0 h1
  have key:∀x:Tm,c∈Te.cols x→(Te.tables x).testBit c.1.toNat=true:=fun x hx=>by
   unfold Te.cols at hx;unfold Te.tables
   split at hx
   ·rename_i hk
    rw[if_pos hk,St.testBit_ofN];rw[G4]at hx;subst hx
    simp
    simp at h0 h1
    omega
   ·simp at hx
  rw[Pr.cols,G3,G3]at hc;rw[Pr.tables,G7,G7,Bool.or_eq_true,Bool.or_eq_true]
  rcases hc with(hc | hc) | hc
  ·exact .inl (.inl (key _ hc))
  ·exact .inl (.inr (key _ hc))
  ·exact .inr (A07 ps c hc h0 h1)
theorem A07:∀(l:List Pd) (c:Int × Int),c∈Pr.colss l→0≤c.1→c.1≤63→(Pr.tabless l).testBit c.1.toNat=true
 | []=>by intro c hc;rw[Pr.colss]at hc;simp at hc
 | p::r=>by
  intro c hc h0 h1;rw[Pr.colss,G3]at hc;rw[Pr.tabless,G7,Bool.or_eq_true]
  rcases hc with hc | hc
  ·exact .inl (A1Q p c hc h0 h1)
  ·exact .inr (A07 r c hc h0 h1)
end
abbrev Nm (p:Pd) (j:Nat):Prop:=(Pr.tables p).testBit j=true
abbrev Sn (a:Tr) (j:Nat):Prop:=(Tr.seen a).testBit j=true
theorem A6W {x:Nat} (h:x≠0):∃j,x.testBit j=true:=Nat.exists_testBit_of_ne_zero h
theorem S4 {cols:List Int} {l r:Nat} {p:Pd} (h:Ck.conj cols l r p=0) :
  (∀j,Nm p j→l.testBit j=true∨r.testBit j=true)∧(∃j,Nm p j∧l.testBit j=true)∧∃j,Nm p j∧r.testBit j=true:=by
 obtain⟨h1,h2,h3⟩:=Ck.conj_good h;refine⟨fun j hj=>?_,?_,?_⟩
 ·have h4:(Pr.tables p ||| (l ||| r)).testBit j=true:=by rw[G7,hj];rfl
  rw[h1,G7,Bool.or_eq_true]at h4;exact h4
 ·obtain⟨j,hj⟩:=A6W h2;rw[Nat.testBit_and,E7]at hj;exact⟨j,hj⟩
 ·obtain⟨j,hj⟩:=A6W h3;rw[Nat.testBit_and,E7]at hj;exact⟨j,hj⟩
theorem A7B {x y:Nat} (h:∃j,x.testBit j=true∧y.testBit j=true):x &&& y≠0:=by
 obtain⟨j,h1,h2⟩:=h
 exact Ck.bit_ne (j:=j) (by rw[Nat.testBit_and,h1,h2];rfl)
theorem Z3 {cols:List Int} {l r l' r':Nat} {p:Pd} (h:Ck.conj cols l r p=0) (h1:∀j,Nm p j→l'.testBit j=true∨r'.testBit j=true) (h2:∃j,Nm p j∧l'.testBit j=true) (h3:∃j,Nm p j∧r'.testBit j=true):Ck.conj cols l' r' p=0:=by
 unfold Ck.conj at h ⊢
 split at h
 ·simp at h
 ·rename_i hr
  rw[if_neg hr]
  split at h
  ·simp at h
  ·rename_i ho
   rw[if_neg,if_neg]
   ·rintro(e | e)
    ·exact A7B h2 e
    ·exact A7B h3 e
   ·intro hh;obtain⟨c,hc,hout⟩:=F4.1 hh;refine ho (F4.2 ⟨c,hc,?_⟩);unfold Ck.out at hout ⊢;rw[Bool.or_eq_true]at hout ⊢
    rcases hout with hout | hout
    ·left
     rw[E7,Bool.not_eq_true',Bool.not_eq_true']at hout ⊢
     by_cases hb:0≤c.1∧c.1≤63
     ·exfalso
      have hn:Nm p c.1.toNat:=A1Q p c hc hb.1 hb.2
      have:St.hasB l' c.1=true∨St.hasB r' c.1=true:=by
       unfold St.hasB;rw[decide_eq_true hb.1,decide_eq_true hb.2]
       simpa using h1 _ hn
      rcases this with e | e
      ·rw[hout.1]at e;cases e
      ·rw[hout.2]at e;cases e
     ·have:∀s,St.hasB s c.1=false:=fun s=>by
       unfold St.hasB
       by_cases h0:0≤c.1
       ·rw[decide_eq_false (p:=c.1≤63) (by omega)];simp
       ·rw[decide_eq_false h0];rfl
      exact⟨this l,this r⟩
    ·exact .inr hout
structure OpOk (o:Tr):Prop where
 lo:1≤o.k
 hi:o.k≤4
 some:o.cs≠[]
 few:o.cs.length≤64
theorem OpOk.k0 {o:Tr} (h:OpOk o):o.k≠0:=by have:=h.lo;omega
def Cj (cols:List Int) (o x y:Tr):Prop:=∀p∈o.cs,Ck.conj cols (Tr.seen x) (Tr.seen y) p=0
theorem A7F (o x y:Tr):Tr.all (on o x y)=Tr.all x++(Tr.all y++[on o x y]):=Ex.all_op rfl
theorem Q5 {cols:List Int} {o x y:Tr}:Ck.Good cols (on o x y)↔Ck.Good cols x∧Ck.Good cols y∧OpOk o∧Cj cols o x y:=by
 constructor
 ·intro h
  have hx:Ck.Good cols x:=h.kid (b:=x) (by simp[on,Tr.ks])
  have hy:Ck.Good cols y:=h.kid (b:=y) (by simp[on,Tr.ks])
  have h1:=Ck.what_alone h.own
  have hk:(on o x y).k≠0:=fun e=>by
   have:=(Ck.alone_leaf h1 e).1
   simp[on,Tr.ks]at this
  obtain⟨x',y',h2,h3,_,h5⟩:=h.op hk
  have e:x'=x∧y'=y:=by
   have:([x,y]:List Tr)=[x',y']:=h2
   simp at this
   exact⟨this.1.symm,this.2.symm⟩
  rw[e.1,e.2]at h5;obtain⟨_,_,h6,h7,_⟩:=Ck.alone_kids h1 hk;have h8:=Ck.alone_le h1
  exact⟨hx,hy,⟨h6,h7,h3,by rw[G6]at h8;exact h8⟩,Ck.conjs_zero.1 h5⟩
 ·rintro⟨hx,hy,ho,hc⟩ z hz;rw[A7F]at hz
  rcases G3.1 hz with hz | hz
  ·exact hx z hz
  ·rcases G3.1 hz with hz | hz
   ·exact hy z hz
   ·rw[G4]at hz;subst hz;have hl:o.cs.length≠0:=fun e=>ho.some (D6 e)
    have ha:Ck.alone cols.length (on o x y) (0+(on o x y).cs.length)=0:=by
     unfold Ck.alone;have e1:(on o x y).k=o.k:=rfl;have e2:(on o x y).cs=o.cs:=rfl;have e3:(on o x y).ks.length=2:=rfl;have e4:(on o x y).t=0:=rfl;rw[e1,e2,e3,e4];have h1:=ho.lo;have h2:=ho.hi;have h3:=ho.few;have hk:=ho.k0
     rw[if_neg (by omega),if_neg hk,if_neg (by omega),if_neg (by omega),if_neg hk,if_neg (by omega)]
    unfold Ck.what
    rw[if_neg (not_not_intro ha),if_neg (show ¬(on o x y).k=0 from ho.k0)]
    exact Ck.conjs_zero.2 hc
theorem A1S {cols:List Int} {a x y:Tr} (h:Ck.Good cols a) (hk:a.ks=[x,y]):a=on a x y:=by
 have h1:=Ck.what_alone h.own
 have h0:a.k≠0:=fun e=>by
  have:=(Ck.alone_leaf h1 e).1;rw[hk]at this
  simp at this
 obtain⟨_,_,_,_,h2⟩:=Ck.alone_kids h1 h0;obtain⟨k,t,h',cs,ks⟩:=a;change ks=[x,y]at hk;change t=0 at h2;subst hk h2
 rfl
theorem R7 {o x y:Tr} (h:o.k≠0) (j:Nat):Sn (on o x y) j↔Sn x j∨(¬(o.k=3∨o.k=4)∧Sn y j):=by
 unfold Sn
 rw[Tr.seen_at,if_neg (show ¬(on o x y).k=0 from h)]
 show(if o.k=3∨o.k=4 then Tr.seen1 [x,y]else Tr.seens [x,y]).testBit j=true↔_
 by_cases h3:o.k=3∨o.k=4
 ·rw[if_pos h3,Tr.seen1]
  simp[h3]
 ·rw[if_neg h3,Tr.seens,Tr.seens,Tr.seens,Nat.or_zero,G7,Bool.or_eq_true]
  simp[h3]
theorem A1b {a:Tr} {j:Nat} (h:Sn a j):(j:Int)∈Ck.lv (Tr.all a):=Ck.seen_lv a j h
theorem lv_on {o x y:Tr} (h:o.k≠0):Ck.lv (Tr.all (on o x y))=Ck.lv (Tr.all x)++Ck.lv (Tr.all y):=by
 rw[A7F,Ck.lv_app,Ck.lv_app,Ck.lv_one,if_neg (show ¬(on o x y).k=0 from h),F3]
theorem A4P (l m:List Tr):Ck.many (l++m)=Ck.many l+Ck.many m:=by simp[Ck.many]
theorem Q4 (o x y:Tr):Ck.many (Tr.all (on o x y))=Ck.many (Tr.all x)+(Ck.many (Tr.all y)+o.cs.length):=by
 rw[A7F,A4P,A4P]
 congr 2
theorem size_on (o x y:Tr):Tr.size (on o x y)=1+Pr.sizes o.cs+(Tr.size x+Tr.size y):=by
 rw[on,Tr.size,Tr.sizes,Tr.sizes,Tr.sizes,Nat.add_zero]
theorem Q2 {d:List (List (List Vl))} {o x y:Tr} (h:o.k≠0):Ex.prod d (Tr.all (on o x y))=Ex.prod d (Tr.all x)*Ex.prod d (Tr.all y):=Ex.prod_op rfl h
theorem A0N {a:Tr} {j:Nat} (h64:j<64):(Tr.tables a).testBit j=true↔(j:Int)∈Ck.lv (Tr.all a):=by
 rw[Ck.tables_lv,St.testBit_ofN,decide_eq_true h64,Bool.true_and,decide_eq_true_iff]
theorem R4 {cs:List Pd} {j:Nat} (h:(Pr.tabless cs).testBit j=true):j<64:=by
 obtain⟨c,hc⟩:∃c∈Pr.colss cs,c.1=(j:Int):=Ck.tabless_cols cs j h
 have key:∀(n:Nat) (p:Pd),Pr.size p≤n→(Pr.tables p).testBit j=true→j<64:=by
  intro n
  induction n with
  | zero=>intro p h;have:=Pr.size_pos p;omega
  | succ n ih =>
   intro p hn hj;rw[Pr.tables_at,G7,G7,Bool.or_eq_true,Bool.or_eq_true]at hj
   have ht:∀x:Tm,(Te.tables x).testBit j=true→j<64:=fun x hx=>by
    unfold Te.tables at hx
    split at hx
    ·rw[St.testBit_ofN]at hx;simp at hx;exact hx.1
    ·simp at hx
   rcases hj with(hj | hj) | hj
   ·exact ht _ hj
   ·exact ht _ hj
   ·obtain⟨q,hq,hqj⟩:=A0w hj;refine ih q ?_ hqj;obtain⟨i,hi⟩:=List.mem_iff_getElem?.1 hq;have:=Pr.sizes_at hi;rw[Pr.size_at]at hn;omega
 obtain⟨p,_,hp⟩:=A0w h;exact key _ p (C3 _) hp
theorem N5 {o n:Tr} (h:named o n=0) {j:Nat} (hj:(Pr.tabless o.cs).testBit j=true):(j:Int)∉Ck.lv (Tr.all n):=fun hm=>by
 have h1:=(A0N (a:=n) (R4 hj)).2 hm;exact A7B ⟨j,hj,h1⟩ h
theorem A1d {o n:Tr} (h:∀j,(Pr.tabless o.cs).testBit j=true→(j:Int)∉Ck.lv (Tr.all n)):named o n=0:=by
 refine Decidable.byContradiction fun e=>?_;obtain⟨j,hj⟩:=A6W e;unfold named at hj;rw[Nat.testBit_and,E7]at hj;exact h j hj.1 ((A0N (R4 hj.1)).1 hj.2)
theorem A5U {cols:List Int} {o x y:Tr} (h:Cj cols o x y) {j:Nat} (hj:(Pr.tabless o.cs).testBit j=true):Sn x j∨Sn y j:=by
 obtain⟨p,hp,hpj⟩:=A0w hj;exact(S4 (h p hp)).1 j hpj
structure Eqv (cols:List Int) (a b:Tr):Prop where
 good:Ck.Good cols b
 seen:Tr.seen b=Tr.seen a
 lv:(Ck.lv (Tr.all b)).Perm (Ck.lv (Tr.all a))
 many:Ck.many (Tr.all b)=Ck.many (Tr.all a)
 size:Tr.size b=Tr.size a
 prod:∀d,Ex.prod d (Tr.all b)=Ex.prod d (Tr.all a)
 tup:∀d,Ex.Fine d→d.length=cols.length→(T d b).Perm (T d a)
theorem Eqv.refl {cols:List Int} {a:Tr} (h:Ck.Good cols a):Eqv cols a a:=⟨h,rfl,.refl _,rfl,rfl,fun _=>rfl,fun _ _ _=>.refl _⟩
theorem A89 {o x y x' y':Tr} (h:o.k≠0) (hx:Tr.seen x'=Tr.seen x) (hy:Tr.seen y'=Tr.seen y):Tr.seen (on o x' y')=Tr.seen (on o x y):=by
 refine Nat.eq_of_testBit_eq fun j=>?_;rw[Bool.eq_iff_iff]
 show Sn _ j↔Sn _ j
 rw[R7 h,R7 h];unfold Sn;rw[hx,hy]
theorem Eqv.on {cols:List Int} {o x y x' y':Tr} (hg:Ck.Good cols (on o x y)) (hx:Eqv cols x x') (hy:Eqv cols y y'):Eqv cols (on o x y) (on o x' y'):=by
 obtain⟨gx,gy,ho,hc⟩:=Q5.1 hg
 have hc':Cj cols o x' y':=by
  unfold Cj at hc ⊢;rw[hx.seen,hy.seen];exact hc
 refine⟨Q5.2 ⟨hx.good,hy.good,ho,hc'⟩,A89 ho.k0 hx.seen hy.seen,?_,?_,?_,fun d=>?_,fun d hd hl=>?_⟩
 ·rw[lv_on ho.k0,lv_on ho.k0];exact hx.lv.append hy.lv
 ·rw[Q4,Q4,hx.many,hy.many]
 ·rw[size_on,size_on,hx.size,hy.size]
 ·rw[Q2 ho.k0,Q2 ho.k0,hx.prod,hy.prod]
 ·rw[A2r hd hl ho.k0 hx.good hy.good,A2r hd hl ho.k0 gx gy];exact A64 (hx.tup d hd hl) (hy.tup d hd hl)
theorem X9 {E F G:List Int} (h:(E++F++G).Nodup):(∀i∈E,i∉F)∧(∀i∈E,i∉G)∧(∀i∈F,i∉E)∧(∀i∈F,i∉G)∧(∀i∈G,i∉E)∧∀i∈G,i∉F:=by
 obtain⟨h1,_,h3⟩:=List.nodup_append.1 h;obtain⟨_,_,h4⟩:=List.nodup_append.1 h1;exact⟨fun i a b=>h4 i a i b rfl,fun i a b=>h3 i (List.mem_append_left _ a) i b rfl,fun i a b=>h4 i b i a rfl,fun i a b=>h3 i (List.mem_append_right _ a) i b rfl,fun i a b=>h3 i (List.mem_append_left _ b) i a rfl,fun i a b=>h3 i (List.mem_append_right _ b) i a rfl⟩
end Id
namespace Id
def undo (how:Nat):Nat:=if how=2 then 3 else if how=3 then 2 else how
section
variable {cols:List Int} {a b e f g:Tr}
structure Fst (cols:List Int) (a b e f g:Tr):Prop where
 ge:Ck.Good cols e
 gf:Ck.Good cols f
 gg:Ck.Good cols g
 oa:OpOk a
 ob:OpOk b
 ca:Cj cols a e f
 cb:Cj cols b (on a e f) g
 nd:(Ck.lv (Tr.all e)++Ck.lv (Tr.all f)++Ck.lv (Tr.all g)).Nodup
theorem A80 (h:Ck.Good cols (on b (on a e f) g)) (hn:(Ck.lv (Tr.all (on b (on a e f) g))).Nodup):Fst cols a b e f g:=by
 obtain⟨h1,gg,ob,cb⟩:=Q5.1 h;obtain⟨ge,gf,oa,ca⟩:=Q5.1 h1;rw[lv_on ob.k0,lv_on oa.k0]at hn;exact⟨ge,gf,gg,oa,ob,ca,cb,hn⟩
structure Snd (cols:List Int) (a b e f g:Tr):Prop where
 ge:Ck.Good cols e
 gf:Ck.Good cols f
 gg:Ck.Good cols g
 oa:OpOk a
 ob:OpOk b
 ca:Cj cols a e (on b f g)
 cb:Cj cols b f g
 nd:(Ck.lv (Tr.all e)++Ck.lv (Tr.all f)++Ck.lv (Tr.all g)).Nodup
theorem A8V (h:Ck.Good cols (on a e (on b f g))) (hn:(Ck.lv (Tr.all (on a e (on b f g)))).Nodup):Snd cols a b e f g:=by
 obtain⟨ge,h1,oa,ca⟩:=Q5.1 h;obtain⟨gf,gg,ob,cb⟩:=Q5.1 h1;rw[lv_on oa.k0,lv_on ob.k0,←D4]at hn;exact⟨ge,gf,gg,oa,ob,ca,cb,hn⟩
theorem A1u {x y:Tr} (h:∀j,Sn x j↔Sn y j):Tr.seen x=Tr.seen y:=Nat.eq_of_testBit_eq fun j=>by rw[Bool.eq_iff_iff];exact h j
theorem A7N (h:Ck.Good cols (on a e f)) (hn:(Ck.lv (Tr.all (on a e f))).Nodup) (hk:a.k=1):Eqv cols (on a e f) (on a f e):=by
 obtain⟨ge,gf,oa,ca⟩:=Q5.1 h;have k0:=oa.k0
 have hc:Cj cols a f e:=fun p hp=>by
  obtain⟨h1,h2,h3⟩:=S4 (ca p hp);exact Z3 (ca p hp) (fun j hj=>(h1 j hj).symm) h3 h2
 rw[lv_on k0]at hn;have hd:=(List.nodup_append.1 hn).2.2;refine⟨Q5.2 ⟨gf,ge,oa,hc⟩,A1u fun j=>?_,?_,?_,?_,fun d=>?_,fun d hf hl=>?_⟩
 ·rw[R7 k0,R7 k0,hk];simp[or_comm]
 ·rw[lv_on k0,lv_on k0];exact List.perm_append_comm
 ·rw[Q4,Q4];omega
 ·rw[size_on,size_on];omega
 ·rw[Q2 k0,Q2 k0,Nat.mul_comm]
 ·rw[A2r hf hl k0 gf ge,A2r hf hl k0 ge gf,hk];exact(turn fun x hx y hy=>A9z (A1R hf hl ge x hx) (A1R hf hl gf y hy) fun i hi hj=>hd i hi i hj rfl).symm
theorem k12 {n:Int} (h:n=1∨n=2):¬(n=3∨n=4):=by omega
theorem Fst.bf (h:Fst cols a b e f g) (hn:named b e=0) {j:Nat} (hj:(Pr.tabless b.cs).testBit j=true):Sn f j∨Sn g j:=by
 rcases A5U h.cb hj with h1 | h1
 ·rcases(R7 h.oa.k0 j).1 h1 with h2 | h2
  ·exact absurd (A1b h2) (N5 hn hj)
  ·exact .inl h2.2
 ·exact .inr h1
theorem A8G {p:Prt} (h:firm p=true) (ha:p.a.k=2) (hb:p.b.k=2):Rj.rejects (named p.b p.f) p.b.cs=true:=by
 unfold firm at h;rw[ha,hb]at h
 simpa using h
theorem A9p {x y:Tu} {N:Nat} {S E G:List Int} (hx:Own E x) (hy:Own G y) (hS:∀t:Nat,N.testBit t=true→(t:Int)∈S) (hE:∀i∈S,i∉E) (hG:∀i∈S,i∉G):Rj.Gone N (back (mg x y)):=by
 intro t c ht;unfold St.hasB at ht;simp only[E7,decide_eq_true_eq]at ht;obtain⟨h0,h1,h2⟩:=ht;have hS':=hS _ h2;rw[Hs.col_row h0,A1c]
 have:(if t.toNat<64 then mg x y t.toNat else [])=[]:=by
  split
  ·rw[A97 (hy.nil (hG _ hS')),hx.nil (hE _ hS')]
  ·rfl
 rw[this];unfold Te.at_
 split <;> simp[Te.nul]
theorem A6q {cs:List Pd} {x y:Tu} {N:Nat} {S E G:List Int} (hr:Rj.rejects N cs=true) (hx:Own E x) (hy:Own G y) (hS:∀t:Nat,N.testBit t=true→(t:Int)∈S) (hE:∀i∈S,i∉E) (hG:∀i∈S,i∉G):P cs (mg x y)=false :=
 decide_eq_false (Rj.rejects_holds (A9p hx hy hS hE hG) cs hr)
theorem A8l {o n:Tr} {t:Nat} (h:(named o n).testBit t=true):(t:Int)∈Ck.lv (Tr.all n):=by
 unfold named at h;rw[Nat.testBit_and,E7]at h;exact(A0N (R4 h.1)).1 h.2
theorem A6o {d:List (List (List Vl))} (hf:Ex.Fine d) (hl:d.length=cols.length) (ge:Ck.Good cols e) (gf:Ck.Good cols f) (gg:Ck.Good cols g) (nd:(Ck.lv (Tr.all e)++Ck.lv (Tr.all f)++Ck.lv (Tr.all g)).Nodup)
  (hA:∀j,(Pr.tabless a.cs).testBit j=true→(j:Int)∉Ck.lv (Tr.all g)) (hB:∀j,(Pr.tabless b.cs).testBit j=true→(j:Int)∉Ck.lv (Tr.all e)) (hk:a.k=1∨(a.k=2∧b.k=2∧Rj.rejects (named b f) b.cs=true)) :
  join b.k (P b.cs) (join a.k (P a.cs) (T d e) (T d f)) (T d g)=join a.k (P a.cs) (T d e) (join b.k (P b.cs) (T d f) (T d g)):=by
 obtain⟨n1,n2,n3,n4,n5,n6⟩:=X9 nd;have oe:=A1R hf hl ge;have of_:=A1R hf hl gf;have og:=A1R hf hl gg;have hA':∀x∈T d e,∀y∈T d f,∀z∈T d g,P a.cs (mg x (mg y z))=P a.cs (mg x y):=fun x hx y hy z hz=>A0T fun j hj=>A9D rfl (A97 ((og z hz).nil (hA j hj)));have hB':∀x∈T d e,∀y∈T d f,∀z∈T d g,P b.cs (mg (mg x y) z)=P b.cs (mg y z):=fun x hx y hy z hz=>A0T fun j hj=>A9D (B0b ((oe x hx).nil (hB j hj))) rfl
 rcases hk with hk | ⟨hk,hk2,hr⟩
 ·rw[hk];exact A27 hA' hB'
 ·rw[hk,hk2];exact N1 hA' hB' fun x hx z hz=>A6q hr (oe x hx) (og z hz) (fun t ht=>A8l ht) n3 n4
theorem Fst.an (h:Fst cols a b e f g) {j:Nat} (hj:(Pr.tabless a.cs).testBit j=true):(j:Int)∉Ck.lv (Tr.all g):=by
 obtain⟨n1,n2,n3,n4,n5,n6⟩:=X9 h.nd
 rcases A5U h.ca hj with h1 | h1
 ·exact n2 _ (A1b h1)
 ·exact n4 _ (A1b h1)
theorem A5f (h:Fst cols a b e f g) (ha:a.k=1∨a.k=2) (hn:named b e=0) (hk:a.k=1∨(a.k=2∧b.k=2∧Rj.rejects (named b f) b.cs=true)):Eqv cols (on b (on a e f) g) (on a e (on b f g)):=by
 have ka:=h.oa.k0;have kb:=h.ob.k0
 have cb:Cj cols b f g:=fun p hp=>by
  obtain⟨h1,⟨j2,h2,h2'⟩,h3⟩:=S4 (h.cb p hp);refine Z3 (h.cb p hp) (fun j hj=>h.bf hn (N9 hp hj)) ⟨j2,h2,?_⟩ h3
  rcases(R7 ka j2).1 h2' with h4 | h4
  ·exact absurd (A1b h4) (N5 hn (N9 hp h2))
  ·exact h4.2
 have ca:Cj cols a e (on b f g):=fun p hp=>by
  obtain⟨h1,h2,⟨j3,h3,h3'⟩⟩:=S4 (h.ca p hp);refine Z3 (h.ca p hp) (fun j hj=>?_) h2 ⟨j3,h3,(R7 kb j3).2 (.inl h3')⟩
  rcases h1 j hj with h4 | h4
  ·exact .inl h4
  ·exact .inr ((R7 kb j).2 (.inl h4))
 have gfg:Ck.Good cols (on b f g):=Q5.2 ⟨h.gf,h.gg,h.ob,cb⟩;have gef:Ck.Good cols (on a e f):=Q5.2 ⟨h.ge,h.gf,h.oa,h.ca⟩;refine⟨Q5.2 ⟨h.ge,gfg,h.oa,ca⟩,A1u fun j=>?_,?_,?_,?_,fun d=>?_,fun d hf hl=>?_⟩
 ·rw[R7 ka,R7 kb,R7 kb,R7 ka];have:=k12 ha
  constructor
  ·rintro(h1 | ⟨_,h1 | h1⟩)
   ·exact .inl (.inl h1)
   ·exact .inl (.inr ⟨this,h1⟩)
   ·exact .inr h1
  ·rintro((h1 | h1) | h1)
   ·exact .inl h1
   ·exact .inr ⟨this,.inl h1.2⟩
   ·exact .inr ⟨this,.inr h1⟩
 ·rw[lv_on ka,lv_on kb,lv_on kb,lv_on ka,D4]
 ·rw[Q4,Q4,Q4,Q4];omega
 ·rw[size_on,size_on,size_on,size_on];omega
 ·rw[Q2 ka,Q2 kb,Q2 kb,Q2 ka,Nat.mul_assoc]
 ·rw[A2r hf hl ka h.ge gfg,A2r hf hl kb h.gf h.gg,A2r hf hl kb gef h.gg,A2r hf hl ka h.ge h.gf];rw[A6o hf hl h.ge h.gf h.gg h.nd (fun j hj=>h.an hj) (fun j hj=>N5 hn hj) hk]
theorem Snd.af (h:Snd cols a b e f g) (hn:named a g=0) {j:Nat} (hj:(Pr.tabless a.cs).testBit j=true):Sn e j∨Sn f j:=by
 rcases A5U h.ca hj with h1 | h1
 ·exact .inl h1
 ·rcases(R7 h.ob.k0 j).1 h1 with h2 | h2
  ·exact .inr h2
  ·exact absurd (A1b h2.2) (N5 hn hj)
theorem Snd.bn (h:Snd cols a b e f g) {j:Nat} (hj:(Pr.tabless b.cs).testBit j=true):(j:Int)∉Ck.lv (Tr.all e):=by
 obtain⟨n1,n2,n3,n4,n5,n6⟩:=X9 h.nd
 rcases A5U h.cb hj with h1 | h1
 ·exact n3 _ (A1b h1)
 ·exact n5 _ (A1b h1)
theorem A8M (h:Snd cols a b e f g) (ha:a.k=1∨a.k=2) (hn:named a g=0) (hk:a.k=1∨(a.k=2∧b.k=2∧Rj.rejects (named b f) b.cs=true)):Eqv cols (on a e (on b f g)) (on b (on a e f) g):=by
 have ka:=h.oa.k0;have kb:=h.ob.k0;have h12:=k12 ha
 have ca:Cj cols a e f:=fun p hp=>by
  obtain⟨h1,h2,⟨j3,h3,h3'⟩⟩:=S4 (h.ca p hp);refine Z3 (h.ca p hp) (fun j hj=>h.af hn (N9 hp hj)) h2 ⟨j3,h3,?_⟩
  rcases(R7 kb j3).1 h3' with h4 | h4
  ·exact h4
  ·exact absurd (A1b h4.2) (N5 hn (N9 hp h3))
 have cb:Cj cols b (on a e f) g:=fun p hp=>by
  obtain⟨h1,⟨j2,h2,h2'⟩,h3⟩:=S4 (h.cb p hp);refine Z3 (h.cb p hp) (fun j hj=>?_) ⟨j2,h2,(R7 ka j2).2 (.inr ⟨h12,h2'⟩)⟩ h3
  rcases h1 j hj with h4 | h4
  ·exact .inl ((R7 ka j).2 (.inr ⟨h12,h4⟩))
  ·exact .inr h4
 have gfg:Ck.Good cols (on b f g):=Q5.2 ⟨h.gf,h.gg,h.ob,h.cb⟩;have gef:Ck.Good cols (on a e f):=Q5.2 ⟨h.ge,h.gf,h.oa,ca⟩;refine⟨Q5.2 ⟨gef,h.gg,h.ob,cb⟩,A1u fun j=>?_,?_,?_,?_,fun d=>?_,fun d hf hl=>?_⟩
 ·rw[R7 kb,R7 ka,R7 ka,R7 kb]
  constructor
  ·rintro((h1 | h1) | h1)
   ·exact .inl h1
   ·exact .inr ⟨h12,.inl h1.2⟩
   ·exact .inr ⟨h12,.inr h1⟩
  ·rintro(h1 | ⟨_,h1 | h1⟩)
   ·exact .inl (.inl h1)
   ·exact .inl (.inr ⟨h12,h1⟩)
   ·exact .inr h1
 ·rw[lv_on kb,lv_on ka,lv_on ka,lv_on kb,D4]
 ·rw[Q4,Q4,Q4,Q4];omega
 ·rw[size_on,size_on,size_on,size_on];omega
 ·rw[Q2 kb,Q2 ka,Q2 ka,Q2 kb,Nat.mul_assoc]
 ·rw[A2r hf hl ka h.ge gfg,A2r hf hl kb h.gf h.gg,A2r hf hl kb gef h.gg,A2r hf hl ka h.ge h.gf];rw[A6o hf hl h.ge h.gf h.gg h.nd (fun j hj=>N5 hn hj) (fun j hj=>h.bn hj) hk]
theorem Fst.be (h:Fst cols a b e f g) (hn:named b f=0) {j:Nat} (hj:(Pr.tabless b.cs).testBit j=true):Sn e j∨Sn g j:=by
 rcases A5U h.cb hj with h1 | h1
 ·rcases(R7 h.oa.k0 j).1 h1 with h2 | h2
  ·exact .inl h2
  ·exact absurd (A1b h2.2) (N5 hn hj)
 ·exact .inr h1
theorem A7S (h:Fst cols a b e f g) (hn:named b f=0):Eqv cols (on b (on a e f) g) (on a (on b e g) f):=by
 have ka:=h.oa.k0;have kb:=h.ob.k0;obtain⟨n1,n2,n3,n4,n5,n6⟩:=X9 h.nd
 have cb:Cj cols b e g:=fun p hp=>by
  obtain⟨h1,⟨j2,h2,h2'⟩,h3⟩:=S4 (h.cb p hp);refine Z3 (h.cb p hp) (fun j hj=>h.be hn (N9 hp hj)) ⟨j2,h2,?_⟩ h3
  rcases(R7 ka j2).1 h2' with h4 | h4
  ·exact h4
  ·exact absurd (A1b h4.2) (N5 hn (N9 hp h2))
 have ca:Cj cols a (on b e g) f:=fun p hp=>by
  obtain⟨h1,⟨j2,h2,h2'⟩,h3⟩:=S4 (h.ca p hp);refine Z3 (h.ca p hp) (fun j hj=>?_) ⟨j2,h2,(R7 kb j2).2 (.inl h2')⟩ h3
  rcases h1 j hj with h4 | h4
  ·exact .inl ((R7 kb j).2 (.inl h4))
  ·exact .inr h4
 have gef:Ck.Good cols (on a e f):=Q5.2 ⟨h.ge,h.gf,h.oa,h.ca⟩;have geg:Ck.Good cols (on b e g):=Q5.2 ⟨h.ge,h.gg,h.ob,cb⟩;refine⟨Q5.2 ⟨geg,h.gf,h.oa,ca⟩,A1u fun j=>?_,?_,?_,?_,fun d=>?_,fun d hf hl=>?_⟩
 ·rw[R7 ka,R7 kb,R7 kb,R7 ka]
  constructor
  ·rintro((h1 | h1) | h1)
   ·exact .inl (.inl h1)
   ·exact .inr h1
   ·exact .inl (.inr h1)
  ·rintro((h1 | h1) | h1)
   ·exact .inl (.inl h1)
   ·exact .inr h1
   ·exact .inl (.inr h1)
 ·rw[lv_on ka,lv_on kb,lv_on kb,lv_on ka,D4,D4];exact List.Perm.append_left _ List.perm_append_comm
 ·rw[Q4,Q4,Q4,Q4];omega
 ·rw[size_on,size_on,size_on,size_on];omega
 ·rw[Q2 ka,Q2 kb,Q2 kb,Q2 ka,Nat.mul_assoc,Nat.mul_assoc,Nat.mul_comm (Ex.prod d (Tr.all g))]
 ·rw[A2r hf hl ka geg h.gf,A2r hf hl kb h.ge h.gg,A2r hf hl kb gef h.gg,A2r hf hl ka h.ge h.gf];have oe:=A1R hf hl h.ge;have of_:=A1R hf hl h.gf;have og:=A1R hf hl h.gg;refine(swap (fun y hy z hz=>A9z (of_ y hy) (og z hz) n4) (fun x hx y hy z hz=>?_) fun x hx y hy z hz=>?_).symm
  ·exact A0T fun j hj=>A9D (A97 ((og z hz).nil (h.an hj))) rfl
  ·exact A0T fun j hj=>A9D (A97 ((of_ y hy).nil (N5 hn hj))) rfl
theorem Snd.ag (h:Snd cols a b e f g) (hn:named a f=0) {j:Nat} (hj:(Pr.tabless a.cs).testBit j=true):Sn e j∨Sn g j:=by
 rcases A5U h.ca hj with h1 | h1
 ·exact .inl h1
 ·rcases(R7 h.ob.k0 j).1 h1 with h2 | h2
  ·exact absurd (A1b h2) (N5 hn hj)
  ·exact .inr h2.2
theorem A3A (h:Snd cols a b e f g) (hn:named a f=0) (hka:a.k=1) (hkb:b.k=1):Eqv cols (on a e (on b f g)) (on b f (on a e g)):=by
 have ka:=h.oa.k0;have kb:=h.ob.k0;obtain⟨n1,n2,n3,n4,n5,n6⟩:=X9 h.nd
 have a12:¬(a.k=3∨a.k=4):=by omega
 have b12:¬(b.k=3∨b.k=4):=by omega
 have ca:Cj cols a e g:=fun p hp=>by
  obtain⟨h1,h2,⟨j3,h3,h3'⟩⟩:=S4 (h.ca p hp);refine Z3 (h.ca p hp) (fun j hj=>h.ag hn (N9 hp hj)) h2 ⟨j3,h3,?_⟩
  rcases(R7 kb j3).1 h3' with h4 | h4
  ·exact absurd (A1b h4) (N5 hn (N9 hp h3))
  ·exact h4.2
 have cb:Cj cols b f (on a e g):=fun p hp=>by
  obtain⟨h1,h2,⟨j3,h3,h3'⟩⟩:=S4 (h.cb p hp);refine Z3 (h.cb p hp) (fun j hj=>?_) h2 ⟨j3,h3,(R7 ka j3).2 (.inr ⟨a12,h3'⟩)⟩
  rcases h1 j hj with h4 | h4
  ·exact .inl h4
  ·exact .inr ((R7 ka j).2 (.inr ⟨a12,h4⟩))
 have gfg:Ck.Good cols (on b f g):=Q5.2 ⟨h.gf,h.gg,h.ob,h.cb⟩;have geg:Ck.Good cols (on a e g):=Q5.2 ⟨h.ge,h.gg,h.oa,ca⟩;refine⟨Q5.2 ⟨h.gf,geg,h.ob,cb⟩,A1u fun j=>?_,?_,?_,?_,fun d=>?_,fun d hf hl=>?_⟩
 ·rw[R7 kb,R7 ka,R7 ka,R7 kb]
  constructor
  ·rintro(h1 | ⟨_,h1 | h1⟩)
   ·exact .inr ⟨a12,.inl h1⟩
   ·exact .inl h1
   ·exact .inr ⟨a12,.inr ⟨b12,h1.2⟩⟩
  ·rintro(h1 | ⟨_,h1 | h1⟩)
   ·exact .inr ⟨b12,.inl h1⟩
   ·exact .inl h1
   ·exact .inr ⟨b12,.inr ⟨a12,h1.2⟩⟩
 ·rw[lv_on kb,lv_on ka,lv_on ka,lv_on kb,←D4,←D4];exact List.Perm.append_right _ List.perm_append_comm
 ·rw[Q4,Q4,Q4,Q4];omega
 ·rw[size_on,size_on,size_on,size_on];omega
 ·rw[Q2 kb,Q2 ka,Q2 ka,Q2 kb,←Nat.mul_assoc,←Nat.mul_assoc,Nat.mul_comm (Ex.prod d (Tr.all f))]
 ·rw[A2r hf hl kb h.gf geg,A2r hf hl ka h.ge h.gg,A2r hf hl ka h.ge gfg,A2r hf hl kb h.gf h.gg,hka,hkb];have oe:=A1R hf hl h.ge;have of_:=A1R hf hl h.gf;have og:=A1R hf hl h.gg;refine(exchange (fun x hx y hy=>A9z (oe x hx) (of_ y hy) n1) (fun x hx y hy z hz=>?_) fun x hx y hy z hz=>?_).symm
  ·exact A0T fun j hj=>A9D rfl (B0b ((of_ y hy).nil (N5 hn hj)))
  ·exact A0T fun j hj=>A9D rfl (B0b ((oe x hx).nil (h.bn hj)))
end
theorem may_1 {a b:Int}:may (1:Nat) a b=true↔a=1:=by simp[may]
theorem may_2 {a b:Int}:may (2:Nat) a b=true↔(a=1∧1≤b∧b≤4)∨(a=2∧b=2):=by simp[may]
theorem may_3 {a b:Int}:may (3:Nat) a b=true↔(a=1∧1≤b∧b≤4)∨(a=2∧b=2):=by simp[may]
theorem may_4 {a b:Int}:may (4:Nat) a b=true↔(1≤a∧a≤4)∧1≤b∧b≤4:=by simp[may]
theorem may_5 {a b:Int}:may (5:Nat) a b=true↔a=1∧b=1:=by simp[may]
theorem alone_some {t:Tr} {p:Prt} (h:alone t=some p):∃e f,t.ks=[e,f]∧p=⟨t,zero,e,f,zero⟩:=by
 unfold alone at h
 split at h
 ·rename_i e f hk;cases h;exact⟨e,f,hk,rfl⟩
 ·cases h
theorem first_some {t:Tr} {p:Prt} (h:first t=some p):∃x e f g,t.ks=[x,g]∧x.ks=[e,f]∧p=⟨x,t,e,f,g⟩:=by
 unfold first at h
 split at h
 ·rename_i x g hk
  split at h
  ·rename_i e f hx;cases h;exact⟨x,e,f,g,hk,hx,rfl⟩
  ·cases h
 ·cases h
theorem second_some {t:Tr} {p:Prt} (h:second t=some p):∃y e f g,t.ks=[e,y]∧y.ks=[f,g]∧p=⟨t,y,e,f,g⟩:=by
 unfold second at h
 split at h
 ·rename_i e y hk
  split at h
  ·rename_i f g hy;cases h;exact⟨y,e,f,g,hk,hy,rfl⟩
  ·cases h
 ·cases h
theorem A4R {p:Prt} (hm:(p.a.k=1∧1≤p.b.k∧p.b.k≤4)∨(p.a.k=2∧p.b.k=2)) (hf:firm p=true):(p.a.k=1∨p.a.k=2)∧(p.a.k=1∨(p.a.k=2∧p.b.k=2∧Rj.rejects (named p.b p.f) p.b.cs=true)):=by
 rcases hm with h | h
 ·exact⟨.inl h.1,.inl h.1⟩
 ·exact⟨.inr h.1,.inr ⟨h.1,h.2,A8G hf h.1 h.2⟩⟩
theorem A7l {cols:List Int} {t x:Tr} {how:Nat} (h0:1≤how) (h5:how≤5) (hg:Ck.Good cols t) (hn:(Ck.lv (Tr.all t)).Nodup) (h:doo how t=some x):Eqv cols t x∧doo (undo how) x=some t:=by
 unfold doo at h
 cases hp:apart how t with
 | none=>rw[hp]at h;cases h
 | some p =>
  rw[hp]at h;change (if(may how p.a.k p.b.k&&holds how p)=true then some (made how p)else none)=some x at h
  by_cases hc:(may how p.a.k p.b.k&&holds how p)=true
  ·rw[if_pos hc]at h;cases h;rw[E7]at hc;obtain⟨hm,hh⟩:=hc
   obtain rfl | rfl | rfl | rfl | rfl:how=1∨how=2∨how=3∨how=4∨how=5:=by omega
   ·obtain⟨e,f,hk,rfl⟩:=alone_some (t:=t) hp;have ht:=A1S hg hk;rw[may_1]at hm;change t.k=1 at hm
    have hg':Ck.Good cols (on t e f):=by rw[←ht];exact hg
    have he:=A7N hg' (by rw[←ht];exact hn) hm
    refine⟨by rw[←ht]at he;exact he,?_⟩
    show doo 1 (on t f e)=some t
    show(if(may (1:Nat) t.k zero.k&&true)=true then some (on t e f)else none)=some t
    rw[if_pos (by rw[Bool.and_true,may_1];exact hm),←ht]
   ·obtain⟨x,e,f,g,hk,hkx,rfl⟩:=first_some (t:=t) hp
    have gx:=hg.kid (b:=x) (by rw[hk];simp)
    have hx:=A1S gx hkx;have ht:=A1S hg hk;rw[hx]at ht;rw[may_2]at hm
    have hh':named t e=0∧firm ⟨x,t,e,f,g⟩=true:=by
     change (named t e == 0&&firm ⟨x,t,e,f,g⟩)=true at hh;rw[E7]at hh
     exact⟨by simpa using hh.1,hh.2⟩
    obtain⟨k1,k2⟩:=A4R (p:=⟨x,t,e,f,g⟩) hm hh'.2
    have hf:=A80 (a:=x) (b:=t) (e:=e) (f:=f) (g:=g) (cols:=cols) (by rw[←ht];exact hg) (by rw[←ht];exact hn)
    have he:=A5f hf k1 hh'.1 k2;rw[←ht]at he;refine⟨he,?_⟩
    show doo 3 (on x e (on t f g))=some t
    unfold doo
    show(if(may (3:Nat) x.k t.k&&(named x g == 0&&firm ⟨on x e (on t f g),on t f g,e,f,g⟩))=true then some (on t (on x e f) g)else none)=some t
    rw[if_pos,←ht];rw[E7,E7];refine⟨may_3.2 hm,?_,hh'.2⟩;rw[A1d fun j hj=>hf.an hj];rfl
   ·obtain⟨y,e,f,g,hk,hky,rfl⟩:=second_some (t:=t) hp
    have gy:=hg.kid (b:=y) (by rw[hk];simp)
    have hy:=A1S gy hky;have ht:=A1S hg hk;rw[hy]at ht;rw[may_3]at hm
    have hh':named t g=0∧firm ⟨t,y,e,f,g⟩=true:=by
     change (named t g == 0&&firm ⟨t,y,e,f,g⟩)=true at hh;rw[E7]at hh
     exact⟨by simpa using hh.1,hh.2⟩
    obtain⟨k1,k2⟩:=A4R (p:=⟨t,y,e,f,g⟩) hm hh'.2
    have hf:=A8V (a:=t) (b:=y) (e:=e) (f:=f) (g:=g) (cols:=cols) (by rw[←ht];exact hg) (by rw[←ht];exact hn)
    have he:=A8M hf k1 hh'.1 k2;rw[←ht]at he;refine⟨he,?_⟩
    show doo 2 (on y (on t e f) g)=some t
    unfold doo
    show(if(may (2:Nat) t.k y.k&&(named y e == 0&&firm ⟨on t e f,on y (on t e f) g,e,f,g⟩))=true then some (on t e (on y f g))else none)=some t
    rw[if_pos,←ht];rw[E7,E7];refine⟨may_2.2 hm,?_,hh'.2⟩;rw[A1d fun j hj=>hf.bn hj];rfl
   ·obtain⟨x,e,f,g,hk,hkx,rfl⟩:=first_some (t:=t) hp
    have gx:=hg.kid (b:=x) (by rw[hk];simp)
    have hx:=A1S gx hkx;have ht:=A1S hg hk;rw[hx]at ht;rw[may_4]at hm
    have hh':named t f=0:=by
     change (named t f == 0)=true at hh
     simpa using hh
    have hf:=A80 (a:=x) (b:=t) (e:=e) (f:=f) (g:=g) (cols:=cols) (by rw[←ht];exact hg) (by rw[←ht];exact hn)
    have he:=A7S hf hh';rw[←ht]at he;refine⟨he,?_⟩
    show doo 4 (on x (on t e g) f)=some t
    unfold doo
    show(if(may (4:Nat) t.k x.k&&(named x g == 0))=true then some (on t (on x e f) g)else none)=some t
    rw[if_pos,←ht];rw[E7];refine⟨may_4.2 ⟨hm.2,hm.1⟩,?_⟩;rw[A1d fun j hj=>hf.an hj];rfl
   ·obtain⟨y,e,f,g,hk,hky,rfl⟩:=second_some (t:=t) hp
    have gy:=hg.kid (b:=y) (by rw[hk];simp)
    have hy:=A1S gy hky;have ht:=A1S hg hk;rw[hy]at ht;rw[may_5]at hm
    have hh':named t f=0:=by
     change (named t f == 0)=true at hh
     simpa using hh
    have hf:=A8V (a:=t) (b:=y) (e:=e) (f:=f) (g:=g) (cols:=cols) (by rw[←ht];exact hg) (by rw[←ht];exact hn)
    have he:=A3A hf hh' hm.1 hm.2;rw[←ht]at he;refine⟨he,?_⟩
    show doo 5 (on y f (on t e g))=some t
    unfold doo
    show(if(may (5:Nat) y.k t.k&&(named y e == 0))=true then some (on t e (on y f g))else none)=some t
    rw[if_pos,←ht];rw[E7];refine⟨may_5.2 ⟨hm.2,hm.1⟩,?_⟩;rw[A1d fun j hj=>hf.bn hj];rfl
  ·rw[if_neg hc]at h;cases h
theorem A4V {t x:Tr} (h:x∈here t):∃how,1≤how∧how≤5∧doo how t=some x:=by
 unfold here at h;obtain⟨how,h1,h2⟩:=List.mem_filterMap.1 h
 refine⟨how,?_,?_,h2⟩ <;> (simp at h1;omega)
theorem ways_eqv {cols:List Int} (a:Tr):Ck.Good cols a→(Ck.lv (Tr.all a)).Nodup→∀b∈ways a,Eqv cols a b:=by
 refine Tr.ind (P:=fun a=>Ck.Good cols a→(Ck.lv (Tr.all a)).Nodup→∀b∈ways a,Eqv cols a b) (fun a ih=>?_) a;intro hg hn b hb
 by_cases h2:a.ks.length=2
 ·obtain⟨x,y,hk⟩:∃x y,a.ks=[x,y]:=by
   match hkk:a.ks,h2 with
   | [x,y],_=>exact⟨x,y,rfl⟩
  have ha:=A1S hg hk
  have hkx:x∈a.ks:=by rw[hk];simp
  have hky:y∈a.ks:=by rw[hk];simp
  have gx:=hg.kid hkx;have gy:=hg.kid hky;obtain⟨nx,ny,_,_⟩:=Ex.lv_apart hk hn
  have hg':Ck.Good cols (on a x y):=by rw[←ha];exact hg
  have ht:a.t=0:=by rw[ha];rfl
  rw[ways_two hk]at hb
  rcases G3.1 hb with hb | hb
  ·obtain⟨how,h1,h5,hd⟩:=A4V hb;exact(A7l h1 h5 hg hn hd).1
  ·rcases G3.1 hb with hb | hb
   ·obtain⟨v,hv,rfl⟩:=List.mem_map.1 hb;have:=Eqv.on hg' (ih x hkx gx nx v hv) (Eqv.refl gy);rw[←ha]at this;rw[ht];exact this
   ·obtain⟨v,hv,rfl⟩:=List.mem_map.1 hb;have:=Eqv.on hg' (Eqv.refl gx) (ih y hky gy ny v hv);rw[←ha]at this;rw[ht];exact this
 ·rw[ways_not h2]at hb;obtain⟨how,h1,h5,hd⟩:=A4V hb;exact(A7l h1 h5 hg hn hd).1
theorem A8Q {n c:Nat} {t:Tr} (h:Ck.alone n t (0+t.cs.length)=0) (hc:c≤64):Ck.alone n t c=0:=by
 unfold Ck.alone at h ⊢
 by_cases h1:t.k<0∨4<t.k∨(t.k=0∧t.h=true)
 ·rw[if_pos h1]at h;simp at h
 ·rw[if_neg h1]at h ⊢
  by_cases h2:t.ks.length≠(if t.k=0 then 0 else 2)
  ·rw[if_pos h2]at h;simp at h
  ·rw[if_neg h2]at h ⊢
   by_cases h3:(t.k=0∧t.cs.length≠0)∨(t.k≠0∧t.cs.length=0)∨64<0+t.cs.length
   ·rw[if_pos h3]at h;simp at h
   ·rw[if_neg h3]at h
    rw[if_neg (by omega)]
    exact h
theorem A85 {cols:List Int} {c:Nat} {t:Tr} (h:Ck.what cols t 0=0) (hc:c+t.cs.length≤64):Ck.what cols t c=0:=by
 have h1:=Ck.what_alone h;have h2:=A8Q h1 hc;unfold Ck.what at h ⊢;rw[if_neg (not_not_intro h1)]at h;rw[if_neg (not_not_intro h2)];exact h
theorem A71 {cols:List Int} {l:List Tr} (h:∀x∈l,Ck.what cols x 0=0):∀{came:List Int} {c:Nat},c+Ck.many l≤64→(Ck.run cols l came c).1=0:=by
 induction l with
 | nil=>intro came c _;rw[Ck.run]
 | cons x r ih =>
  intro came c hc
  have e:Ck.many (x::r)=x.cs.length+Ck.many r:=by simp[Ck.many]
  rw[Ck.run,if_neg (not_not_intro (A85 (h x E9) (by omega)))]
  exact ih (fun y hy=>h y (F7 _ hy)) (by omega)
theorem query_eqv {cols:List Int} {a b:Tr} (h:Ck.query cols a=0) (e:Eqv cols a b):Ck.query cols b=0:=by
 obtain⟨h1,h2,h3⟩:=Ck.query_right h;have h4:=(Ck.tour_zero.1 h3).1;have hm:=Ck.run_many h4 (E3 _);refine Ck.query_of h1 h2 (Ck.tour_zero.2 ?_)
 have hr:(Ck.run cols (Tr.all b) [] 0).1=0:=A71 e.good (by rw[e.many];exact hm)
 refine⟨hr,?_⟩;rw[Ck.run_lv hr,F1];exact e.lv.nodup_iff.2 (Ck.tour_lv h3)
theorem data_eqv {cols:List Int} {a b:Tr} {d:List (List (List Vl))} (h:Ck.data cols a d=0) (e:Eqv cols a b):Ck.data cols b d=0:=by
 unfold Ck.data at h ⊢
 split at h
 ·rename_i hh;exact absurd h hh
 ·rename_i hh
  rw[if_neg (not_not_intro (query_eqv (Decidable.not_not.1 hh) e))];exact h
def flat (s:Nat) (cols:List Int) (f:Tu):List Vl:=(List.range cols.length).flatMap fun i=>if s.testBit i then Mt.cut (Mt.num cols i) (f i)else []
theorem A8X (cols:List Int) (a:Tr) (d:List (List (List Vl))):Ex.rows cols a d=(T d a).map (flat (Tr.seen a) cols):=by
 unfold Ex.rows T;rw[List.map_map]
 rfl
theorem rows_eqv {cols:List Int} {a b:Tr} {d:List (List (List Vl))} (hd:Ex.Fine d) (hl:d.length=cols.length) (e:Eqv cols a b):(Ex.rows cols b d).Perm (Ex.rows cols a d):=by
 rw[A8X,A8X,e.seen];exact(e.tup d hd hl).map _
end Id
end Go.Proofs.YtbddhkgbpjhhaaaGreatDoor
