/-
  PACKAGE ident: the tour's own function, handed on to a kid's tour.
-/
import Derived.Test.YtbddhkgbpjhhaaaGreatDoorIddM
set_option maxHeartbeats 6400000
namespace Go.Proofs.YtbddhkgbpjhhaaaGreatDoor
open Go.RowKit Go.Sort
theorem Id.around_size {a x y t:Tr} {i:Nat} (hk:a.ks=[x,y]) (hi:i<2) (hs:∀b,a.ks[i]?=some b→Tr.size t=Tr.size b):Tr.size (R6 a i t)=Tr.size a:=by
 have ha:=Id.size_two hk
 obtain rfl | rfl:i=0∨i=1:=by omega
 ·have h1:=hs x (by rw[hk];rfl)
  have h2:=Id.size_two (t:=R6 a 0 t) (x:=t) (y:=y) (by show a.ks.set 0 t=_;rw[hk];rfl)
  rw[h2,ha,h1];rfl
 ·have h1:=hs y (by rw[hk];rfl)
  have h2:=Id.size_two (t:=R6 a 1 t) (x:=x) (y:=t) (by show a.ks.set 1 t=_;rw[hk];rfl)
  rw[h2,ha,h1];rfl
theorem Id.around_zero {a x y:Tr} (hk:a.ks=[x,y]):R6 a 0=fun v=>Tr.mk a.k a.t a.h a.cs [v,y]:=by
 funext v;show Tr.mk a.k a.t a.h a.cs (a.ks.set 0 v)=_;rw[hk];rfl
theorem Id.around_one {a x y:Tr} (hk:a.ks=[x,y]):R6 a 1=fun v=>Tr.mk a.k a.t a.h a.cs [x,v]:=by
 funext v;show Tr.mk a.k a.t a.h a.cs (a.ks.set 1 v)=_;rw[hk];rfl
def Id.chs (a:Tr) (q:Nat):List Tr:=([1,2,3,4,5].take q).filterMap fun h=>Id.doo h a
theorem Id.chs_five (a:Tr):Id.chs a 5=Id.here a:=rfl
theorem Id.chs_none {a:Tr} {q:Nat} (hq:q<5) (h:Id.doo (q+1) a=none):Id.chs a (q+1)=Id.chs a q:=by
 obtain rfl | rfl | rfl | rfl | rfl:q=0∨q=1∨q=2∨q=3∨q=4:=by omega
 all_goals simp only[Nat.reduceAdd]at h;simp[Id.chs,List.filterMap_cons,h]
theorem Id.chs_snoc {a b:Tr} (l:List Nat) (n:Nat) (hn:Id.doo n a=some b):(l++[n]).filterMap (fun h=>Id.doo h a)=l.filterMap (fun h=>Id.doo h a)++[b]:=by
 rw[List.filterMap_append];simp[hn]
theorem Id.chs_some {a b:Tr} {q:Nat} (hq:q<5) (h:Id.doo (q+1) a=some b):Id.chs a (q+1)=Id.chs a q++[b]:=by
 obtain rfl | rfl | rfl | rfl | rfl:q=0∨q=1∨q=2∨q=3∨q=4:=by omega
 all_goals simp only[Nat.reduceAdd]at h
 ·exact Id.chs_snoc [] 1 h
 ·exact Id.chs_snoc [1] 2 h
 ·exact Id.chs_snoc [1,2] 3 h
 ·exact Id.chs_snoc [1,2,3] 4 h
 ·exact Id.chs_snoc [1,2,3,4] 5 h
theorem ArEnv.keep {T:Nat→Prop} {bn bi bh:Nat} {z:Nd} {i:Nat} {f:FuncId} {cs:Array Value} {w w':World} {R:Nat→Prop} (h:ArEnv T bn bi bh z i f cs w) (hk:Keeps R w w') (h1:R bn) (h2:R bi) (h3:R bh) (hT:∀k,T k→R k):ArEnv T bn bi bh z i f cs w' :=
 ⟨h.n.keeps hk h1,h.i.keeps hk h2,h.h.keeps hk h3,h.z.keep hk.size fun k a b=>⟨hk.same k b (hT k a),a⟩⟩
structure Arh (H:List Tr→(Nat→Prop)→World→Prop) (f:FuncId) (cs:Array Value) (T:Nat→Prop) (bn bi bh:Nat) (z:Nd) (i:Nat) (L0:List Tr) (L:List Tr) (O:Nat→Prop) (w:World):Prop where
 up:H (L0++L.map (R6 z.a i)) O w
 env:ArEnv T bn bi bh z i f cs w
 out:∀k,T k→¬O k
 lt:∀k,T k→k<w.heap.size
 n:¬O bn
 i:¬O bi
 h:¬O bh
theorem Hand.around {N M B:Nat} {S:Nat→Prop} {H:List Tr→(Nat→Prop)→World→Prop} {f:FuncId} {cs:Array Value} (hh:Hand N B S H f cs) (T:Nat→Prop) (bn bi bh:Nat) (z:Nd) (x y:Tr) (hk:z.a.ks=[x,y]) (i:Nat) (hi:i<2) (L0:List Tr)
  (hsz:∀t,Tr.size t=M→Tr.size (R6 z.a i t)=N):Hand M (B-L0.length) (fun k=>S k∨T k∨k=bn∨k=bi∨k=bh) (Arh H f cs T bn bi bh z i L0) 53 #[.pointer (some ⟨bn,0,none⟩),.pointer (some ⟨bi,0,none⟩),.pointer (some ⟨bh,0,none⟩)] where
 enter:=fun _ _=>by kernel_rfl
 keep:=fun L O w w' h hkp=>⟨hh.keep _ _ _ _ h.up (hkp.mono fun k hk=>hk.imp id Or.inl),
  h.env.keep hkp (.inr (.inr (.inr (.inl rfl)))) (.inr (.inr (.inr (.inr (.inl rfl))))) (.inr (.inr (.inr (.inr (.inr rfl))))) (fun k hk=>.inr (.inr (.inl hk))),h.out,fun k hk=>C9 (h.lt k hk) hkp.size,h.n,h.i,h.h⟩
 own:=fun L O w h k=>⟨(hh.own _ _ _ h.up k).1,fun hs=>by
  rcases hs with hs | hs | rfl | rfl | rfl
  ·exact(hh.own _ _ _ h.up k).2 hs
  ·exact⟨h.lt k hs,h.out k hs⟩
  ·exact⟨h.env.n.lt,h.n⟩
  ·exact⟨h.env.i.lt,h.i⟩
  ·exact⟨h.env.h.lt,h.h⟩⟩
 call:=fun L O w t u v h ht hs hl=>(A5Y N B S H f cs hh T bn bi bh z x y hk i hi _ O w t u v h.up h.env h.out ht (hsz t hs) (by rw[C6,E0];omega)).mono fun E w' ho=>by
  obtain⟨hr,O',hH,hkp,hO⟩:=ho
  have hne:∀k,k<w.heap.size→¬O k→¬O' k:=fun k hlt hn h2=>(hO k h2).elim hn (fun h=>by omega)
  exact⟨hr,O',⟨by rw[List.map_append,←D4];exact hH,h.env.keep hkp h.n h.i h.h h.out,fun k hT=>hne k (h.lt k hT) (h.out k hT),fun k hT=>C9 (h.lt k hT) hkp.size,hne _ h.env.n.lt h.n,hne _ h.env.i.lt h.i,hne _ h.env.h.lt h.h⟩,hkp,hO⟩
end Go.Proofs.YtbddhkgbpjhhaaaGreatDoor
